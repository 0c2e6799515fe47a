package tests

import (
	"math"
	"math/big"
	"math/rand"
	"strings"
	"testing"

	"loop.example/g01350/impl"
)

func TestRanksListed(t *testing.T) {
	for _, piece := range pieces {
		for _, key := range splitDigits() {
			for long := 1; long <= 5; long++ {
				walks := walksFrom(piece, key, long)
				for rank, walk := range walks {
					if got, ok := impl.NumberOfRank(piece, key, long, rank); got != walk || !ok {
						t.Errorf("NumberOfRank %s, %s, %d, %d: %s %v, not %s", piece, key, long, rank, got, ok, walk)
					}
					if got, ok := impl.RankOfNumber(piece, walk); got != rank || !ok {
						t.Errorf("RankOfNumber %s, %s: %d %v, not %d", piece, walk, got, ok, rank)
					}
				}
				holdNoRank(t, piece, key, long, len(walks))
			}
		}
	}
}

// holdNoRank holds that there is no number before which so many or more come, or less than none.
func holdNoRank(t *testing.T, piece string, key string, long int, count int) {
	t.Helper()
	for _, rank := range []int{count, count + 1, impl.MaxNumbers, impl.MaxNumbers + 1, math.MaxInt, -1, -count - 1, math.MinInt} {
		if got, ok := impl.NumberOfRank(piece, key, long, rank); got != "" || ok {
			t.Errorf("NumberOfRank %s, %s, %d, %d: %s %v of %d", piece, key, long, rank, got, ok, count)
		}
	}
}

// filled goes on from a walk to the next key at one end of their order, up to so many digits.
func filled(piece string, walk string, long int, last bool) string {
	for len(walk) < long {
		nexts := goesFrom(piece, walk[len(walk)-1])
		if last {
			walk += nexts[len(nexts)-1:]
		} else {
			walk += nexts[:1]
		}
	}
	return walk
}

// walkBehind returns the walk of as many digits from the same key that comes next in order, or "".
func walkBehind(piece string, walk string) string {
	for at := len(walk) - 1; at > 0; at-- {
		nexts := goesFrom(piece, walk[at-1])
		place := strings.IndexByte(nexts, walk[at])
		if place+1 < len(nexts) {
			return filled(piece, walk[:at]+nexts[place+1:place+2], len(walk), false)
		}
	}
	return ""
}

// holdRank holds the number of a rank against the one that comes next, by rank and by order.
func holdRank(t *testing.T, piece string, key string, long int, rank int) {
	t.Helper()
	walk, ok := impl.NumberOfRank(piece, key, long, rank)
	if len(walk) != long || walk[:1] != key || !isGone(piece, walk) || !ok {
		t.Errorf("NumberOfRank %s, %s, %d, %d: %s %v", piece, key, long, rank, walk, ok)
		return
	}
	if got, ok := impl.RankOfNumber(piece, walk); got != rank || !ok {
		t.Errorf("RankOfNumber %s, %s: %d %v, not %d", piece, walk, got, ok, rank)
	}
	behind := walkBehind(piece, walk)
	if next, ok := impl.NumberOfRank(piece, key, long, rank+1); next != behind || ok != (behind != "") {
		t.Errorf("NumberOfRank %s, %s, %d: behind %s comes %s %v, not %s", piece, key, long, walk, next, ok, behind)
	}
}

func TestLongRanks(t *testing.T) {
	random := rand.New(rand.NewSource(53))
	for _, piece := range pieces {
		for _, key := range splitDigits() {
			if piece == "n" && key == "5" {
				continue
			}
			for _, long := range []int{6, 11, 20, 21, 22, 23, 24, 32, 34, 39, impl.MaxWalked} {
				first, last := filled(piece, key, long, false), filled(piece, key, long, true)
				all := bigWays(piece, walkDigits, long-1)[key[0]-'0']
				if all.Cmp(big.NewInt(impl.MaxNumbers)) > 0 {
					holdTooManyToRank(t, piece, key, long)
					continue
				}
				count := all.Int64()
				if got, ok := impl.NumberOfRank(piece, key, long, 0); got != first || !ok {
					t.Errorf("NumberOfRank %s, %s, %d, 0: %s %v, not %s", piece, key, long, got, ok, first)
				}
				if got, ok := impl.RankOfNumber(piece, first); got != 0 || !ok {
					t.Errorf("RankOfNumber %s, %s: %d %v, but it is the first", piece, first, got, ok)
				}
				if got, ok := impl.RankOfNumber(piece, last); got != int(count-1) || !ok {
					t.Errorf("RankOfNumber %s, %s: %d %v, but it is the last of %d", piece, last, got, ok, count)
				}
				for _, rank := range []int64{0, 1, count / 2, count - 2, count - 1, random.Int63n(count), random.Int63n(count), random.Int63n(count)} {
					holdRank(t, piece, key, long, int(rank))
				}
				holdNoRank(t, piece, key, long, int(count))
			}
		}
	}
}

// holdTooManyToRank holds that neither the first numbers nor others have a rank, however few come before.
func holdTooManyToRank(t *testing.T, piece string, key string, long int) {
	t.Helper()
	for _, rank := range []int{0, 1, 1000, impl.MaxNumbers - 1} {
		if got, ok := impl.NumberOfRank(piece, key, long, rank); got != "" || ok {
			t.Errorf("NumberOfRank %s, %s, %d, %d: %s %v", piece, key, long, rank, got, ok)
		}
	}
	holdNoRank(t, piece, key, long, impl.MaxNumbers)
	first, last := filled(piece, key, long, false), filled(piece, key, long, true)
	for _, walk := range []string{first, walkBehind(piece, first), last} {
		if got, ok := impl.RankOfNumber(piece, walk); got != 0 || ok {
			t.Errorf("RankOfNumber %s, %s: %d %v", piece, walk, got, ok)
		}
	}
}

func TestTooManyToRank(t *testing.T) {
	for _, c := range []struct {
		piece, key string
		long       int
	}{
		{"k", "5", 23}, {"k", "0", 23}, {"r", "5", 25}, {"r", "0", 25}, {"b", "5", 35}, {"b", "1", 35}, {"k", "1", impl.MaxWalked}, {"r", "9", impl.MaxWalked}, {"b", "0", impl.MaxWalked},
	} {
		holdTooManyToRank(t, c.piece, c.key, c.long)
	}
	// One digit less, and they have ranks again.
	for _, c := range []struct {
		piece, key string
		long       int
	}{
		{"k", "5", 22}, {"r", "5", 24}, {"b", "5", 34}, {"b", "2", impl.MaxWalked}, {"n", "0", impl.MaxWalked},
	} {
		holdRank(t, c.piece, c.key, c.long, 0)
	}
}

func TestRanksByHand(t *testing.T) {
	for _, c := range []struct {
		piece, walk string
		rank        int
	}{
		{"n", "40", 0}, {"n", "43", 1}, {"n", "49", 2}, {"n", "406", 1}, {"n", "438", 3}, {"n", "494", 5}, {"n", "5", 0}, {"n", "0", 0}, {"r", "08", 2}, {"r", "021", 1}, {"k", "59", 7},
		{"b", "28", -1}, {"b", "268", 3}, {"b", "242", 0}, {"n", "51", -1}, {"n", "55", -1}, {"k", "0", 0}, {"r", "00", -1}, {"r", "1254", 13}, {"r", "1245", -1},
	} {
		want, ok := c.rank, c.rank >= 0
		if !ok {
			want = 0
		}
		if got, is := impl.RankOfNumber(c.piece, c.walk); got != want || is != ok {
			t.Errorf("RankOfNumber %s, %s: %d %v", c.piece, c.walk, got, is)
		}
		if !ok {
			continue
		}
		if got, is := impl.NumberOfRank(c.piece, c.walk[:1], len(c.walk), c.rank); got != c.walk || !is {
			t.Errorf("NumberOfRank %s, %s, %d, %d: %s %v", c.piece, c.walk[:1], len(c.walk), c.rank, got, is)
		}
	}
	holdNoRank(t, "n", "5", 2, 0)
	holdNoRank(t, "n", "5", impl.MaxWalked, 0)
}
