package tests

import (
	"math/big"
	"strings"
	"testing"

	"loop.example/g01350/impl"
)

// bigWays counts without any limit, for each first digit, the walks of so many steps that end at one of some digits.
func bigWays(piece string, ends string, steps int) [10]*big.Int {
	var ways [10]*big.Int
	for digit := range ways {
		ways[digit] = big.NewInt(int64(strings.Count(ends, walkDigits[digit:digit+1])))
	}
	for range steps {
		var more [10]*big.Int
		for digit, nexts := range goings[piece] {
			more[digit] = new(big.Int)
			for i := range len(nexts) {
				more[digit].Add(more[digit], ways[nexts[i]-'0'])
			}
		}
		ways = more
	}
	return ways
}

func sumOfAll(ways [10]*big.Int) *big.Int {
	sum := new(big.Int)
	for _, count := range ways {
		sum.Add(sum, count)
	}
	return sum
}

// holdCount holds a result against a count without any limit, as it fails above MaxNumbers. No count there is just MaxNumbers: the nearest ones are 995232240339997 and 1012228428495693, which the tests of all lengths meet.
func holdCount(t *testing.T, want *big.Int, got int, ok bool, what ...any) {
	t.Helper()
	if want.Cmp(big.NewInt(impl.MaxNumbers)) > 0 {
		if got != 0 || ok {
			t.Errorf("%v: %d %v, but there are %s", what, got, ok, want)
		}
		return
	}
	if want.Cmp(big.NewInt(int64(got))) != 0 || !ok {
		t.Errorf("%v: %d %v, not %s", what, got, ok, want)
	}
}

func TestCountNumbersListed(t *testing.T) {
	for _, piece := range pieces {
		for long := 1; long <= 5; long++ {
			all, most, busiest := 0, -1, ""
			for _, key := range splitDigits() {
				count := len(walksFrom(piece, key, long))
				if got, ok := impl.CountNumbers(piece, key, long); got != count || !ok {
					t.Errorf("CountNumbers %s, %s, %d: %d %v, not %d", piece, key, long, got, ok, count)
				}
				all += count
				if count > most {
					most, busiest = count, key
				}
			}
			if got, ok := impl.CountAllNumbers(piece, long); got != all || !ok {
				t.Errorf("CountAllNumbers %s, %d: %d %v, not %d", piece, long, got, ok, all)
			}
			if key, got, ok := impl.BusiestKey(piece, long); key != busiest || got != most || !ok {
				t.Errorf("BusiestKey %s, %d: %s %d %v, not %s %d", piece, long, key, got, ok, busiest, most)
			}
		}
	}
}

func TestCountBetweenListed(t *testing.T) {
	for _, piece := range pieces {
		for steps := range 5 {
			for _, from := range splitDigits() {
				ends := map[byte]int{}
				for _, walk := range walksFrom(piece, from, steps+1) {
					ends[walk[len(walk)-1]]++
				}
				for _, to := range splitDigits() {
					if got, ok := impl.CountBetween(piece, from, to, steps); got != ends[to[0]] || !ok {
						t.Errorf("CountBetween %s, %s, %s, %d: %d %v, not %d", piece, from, to, steps, got, ok, ends[to[0]])
					}
				}
				if got, ok := impl.CountRounds(piece, from, steps); got != ends[from[0]] || !ok {
					t.Errorf("CountRounds %s, %s, %d: %d %v, not %d", piece, from, steps, got, ok, ends[from[0]])
				}
			}
		}
	}
}

func TestCountNumbersOfAllLengths(t *testing.T) {
	for _, piece := range pieces {
		for long := 1; long <= impl.MaxWalked; long++ {
			ways := bigWays(piece, walkDigits, long-1)
			for digit, key := range splitDigits() {
				got, ok := impl.CountNumbers(piece, key, long)
				holdCount(t, ways[digit], got, ok, "CountNumbers", piece, key, long)
			}
			got, ok := impl.CountAllNumbers(piece, long)
			holdCount(t, sumOfAll(ways), got, ok, "CountAllNumbers", piece, long)
		}
	}
}

func TestCountBetweenAllSteps(t *testing.T) {
	for _, piece := range pieces {
		for steps := range impl.MaxWalked {
			for end, to := range splitDigits() {
				ways := bigWays(piece, to, steps)
				for digit, from := range splitDigits() {
					got, ok := impl.CountBetween(piece, from, to, steps)
					holdCount(t, ways[digit], got, ok, "CountBetween", piece, from, to, steps)
				}
				got, ok := impl.CountRounds(piece, to, steps)
				holdCount(t, ways[end], got, ok, "CountRounds", piece, to, steps)
			}
		}
	}
}

// TestCountsAddUp holds each count against the sum over the next keys, of what the package itself tells.
func TestCountsAddUp(t *testing.T) {
	for _, piece := range pieces {
		for long := 2; long <= impl.MaxWalked; long++ {
			all := 0
			for _, key := range splitDigits() {
				count, ok := impl.CountNumbers(piece, key, long)
				if !ok {
					all = impl.MaxNumbers + 1
					continue
				}
				nexts, _ := impl.NextKeys(piece, key)
				for i := range len(nexts) {
					rest, _ := impl.CountNumbers(piece, nexts[i:i+1], long-1)
					back, _ := impl.CountBetween(piece, key, nexts[i:i+1], 1)
					count -= rest * back
				}
				if count != 0 {
					t.Errorf("CountNumbers %s, %s, %d is %d more than the sum over %s", piece, key, long, count, nexts)
				}
				count, _ = impl.CountNumbers(piece, key, long)
				all += count
				for _, to := range splitDigits() {
					between, _ := impl.CountBetween(piece, key, to, long-1)
					back, _ := impl.CountBetween(piece, to, key, long-1)
					if between != back {
						t.Errorf("CountBetween %s, %s, %s, %d: %d, but %d back", piece, key, to, long-1, between, back)
					}
					count -= between
				}
				if count != 0 {
					t.Errorf("CountNumbers %s, %s, %d is %d more than the sum of CountBetween", piece, key, long, count)
				}
			}
			if got, ok := impl.CountAllNumbers(piece, long); ok != (all <= impl.MaxNumbers) || ok && got != all {
				t.Errorf("CountAllNumbers %s, %d: %d %v, not %d", piece, long, got, ok, all)
			}
		}
	}
}

func TestCountsByHand(t *testing.T) {
	for _, c := range []struct {
		piece, key  string
		long, count int
	}{
		{"n", "4", 2, 3}, {"n", "4", 1, 1}, {"n", "5", 1, 1}, {"n", "5", 2, 0}, {"n", "5", impl.MaxWalked, 0}, {"n", "0", 3, 6}, {"r", "0", 2, 3}, {"k", "5", 2, 8},
		{"b", "2", 3, 4}, {"b", "6", impl.MaxWalked, 1 << 39}, {"b", "5", 3, 10}, {"n", "6", impl.MaxWalked, 140464250421248},
		{"k", "5", 22, 673745294626723}, {"k", "5", 23, 0}, {"r", "5", 24, 375885605958147}, {"r", "5", 25, 0}, {"b", "5", 34, 884363390421130}, {"b", "5", 35, 0},
		{"k", "0", impl.MaxWalked, 0}, {"r", "0", impl.MaxWalked, 0}, {"b", "0", impl.MaxWalked, 0},
	} {
		fails := c.count == 0 && c.piece != "n"
		if got, ok := impl.CountNumbers(c.piece, c.key, c.long); got != c.count || ok == fails {
			t.Errorf("CountNumbers %s, %s, %d: %d %v", c.piece, c.key, c.long, got, ok)
		}
	}
	for _, c := range []struct {
		piece       string
		long, count int
		ok          bool
	}{
		{"n", 1, 10, true}, {"n", 2, 20, true}, {"n", 3, 46, true}, {"k", 1, 10, true}, {"n", impl.MaxWalked, 909103725543424, true},
		{"k", 21, 861499388163644, true}, {"k", 22, 0, false}, {"r", 23, 740241591923868, true}, {"r", 24, 0, false}, {"b", 32, 487635530576080, true}, {"b", 33, 0, false},
		{"k", impl.MaxWalked, 0, false}, {"r", impl.MaxWalked, 0, false}, {"b", impl.MaxWalked, 0, false},
	} {
		if got, ok := impl.CountAllNumbers(c.piece, c.long); got != c.count || ok != c.ok {
			t.Errorf("CountAllNumbers %s, %d: %d %v", c.piece, c.long, got, ok)
		}
	}
}

func TestCountBetweenByHand(t *testing.T) {
	for _, c := range []struct {
		piece, from, to string
		steps, count    int
		ok              bool
	}{
		{"n", "1", "9", 4, 3, true}, {"n", "1", "9", 3, 0, true}, {"n", "1", "9", 2, 0, true}, {"n", "5", "5", 0, 1, true}, {"n", "5", "5", 1, 0, true},
		{"n", "1", "5", 0, 0, true}, {"n", "1", "5", impl.MaxWalked - 1, 0, true}, {"n", "1", "1", 0, 1, true}, {"n", "1", "1", 2, 2, true},
		{"n", "1", "1", impl.MaxWalked - 1, 0, true}, {"b", "2", "4", impl.MaxWalked - 1, 1 << 38, true}, {"b", "2", "2", impl.MaxWalked - 1, 0, true},
		{"r", "0", "8", 1, 1, true}, {"r", "0", "8", 2, 2, true}, {"k", "0", "8", 2, 2, true}, {"b", "0", "8", 4, 0, true},
		{"k", "5", "5", 22, 526910129120823, true}, {"k", "5", "5", 23, 0, false}, {"k", "0", "0", 23, 402098296128616, true}, {"k", "0", "0", 24, 0, false},
		{"r", "5", "5", 25, 815601842846252, true}, {"r", "5", "5", 26, 0, false}, {"b", "1", "1", 35, 638826966295298, true}, {"b", "1", "1", 36, 0, false},
		{"k", "0", "5", impl.MaxWalked - 1, 0, false}, {"r", "1", "9", impl.MaxWalked - 1, 0, false},
	} {
		if got, ok := impl.CountBetween(c.piece, c.from, c.to, c.steps); got != c.count || ok != c.ok {
			t.Errorf("CountBetween %s, %s, %s, %d: %d %v", c.piece, c.from, c.to, c.steps, got, ok)
		}
		if c.from != c.to {
			continue
		}
		if got, ok := impl.CountRounds(c.piece, c.from, c.steps); got != c.count || ok != c.ok {
			t.Errorf("CountRounds %s, %s, %d: %d %v", c.piece, c.from, c.steps, got, ok)
		}
	}
}

func TestBusiestKey(t *testing.T) {
	for _, piece := range pieces {
		for long := 1; long <= 20; long++ {
			ways := bigWays(piece, walkDigits, long-1)
			busiest := 0
			for digit := range ways {
				if ways[digit].Cmp(ways[busiest]) > 0 {
					busiest = digit
				}
			}
			key, got, ok := impl.BusiestKey(piece, long)
			if key != splitDigits()[busiest] {
				t.Errorf("BusiestKey %s, %d: %s %d %v, not %d", piece, long, key, got, ok, busiest)
			}
			holdCount(t, ways[busiest], got, ok, "BusiestKey", piece, long)
			if count, ok := impl.CountNumbers(piece, key, long); count != got || !ok {
				t.Errorf("BusiestKey %s, %d: %s %d, but CountNumbers %d %v", piece, long, key, got, count, ok)
			}
		}
	}
	for _, c := range []struct {
		piece string
		long  int
		key   string
		count int
	}{
		{"n", 1, "0", 1}, {"n", 2, "4", 3}, {"n", 3, "0", 6}, {"n", 20, "4", 9068032}, {"k", 1, "0", 1}, {"k", 2, "5", 8}, {"k", 20, "5", 27041247140276},
		{"r", 2, "2", 5}, {"r", 20, "2", 1127442751691}, {"b", 2, "5", 4}, {"b", 20, "5", 453882870},
	} {
		if key, count, ok := impl.BusiestKey(c.piece, c.long); key != c.key || count != c.count || !ok {
			t.Errorf("BusiestKey %s, %d: %s %d %v", c.piece, c.long, key, count, ok)
		}
	}
}
