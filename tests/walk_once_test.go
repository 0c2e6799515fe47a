package tests

import (
	"strings"
	"testing"

	"loop.example/g01350/impl"
)

// onceFrom lists all walks of so many digits from a key on which no digit is twice, in order.
func onceFrom(piece string, key string, long int) []string {
	walks := []string{key}
	for range long - 1 {
		var longer []string
		for _, walk := range walks {
			for _, next := range strings.Split(goesFrom(piece, walk[len(walk)-1]), "") {
				if !strings.Contains(walk, next) {
					longer = append(longer, walk+next)
				}
			}
		}
		walks = longer
	}
	return walks
}

func TestWalksOnceListed(t *testing.T) {
	for _, piece := range pieces {
		for _, key := range splitDigits() {
			longest := ""
			for long := 1; long <= len(walkDigits); long++ {
				walks := onceFrom(piece, key, long)
				if len(walks) > 0 {
					longest = walks[0]
				}
				if got, ok := impl.CountOnce(piece, key, long); got != len(walks) || !ok {
					t.Errorf("CountOnce %s, %s, %d: %d %v, not %d", piece, key, long, got, ok, len(walks))
				}
			}
			if got, ok := impl.LongestOnce(piece, key); got != longest || !ok {
				t.Errorf("LongestOnce %s, %s: %s %v, not %s", piece, key, got, ok, longest)
			}
		}
	}
}

func TestLongestOnceByHand(t *testing.T) {
	for _, c := range []struct{ piece, key, walk string }{
		// From 2 a bishop could as well go 2684, and comes to four digits alone.
		{"b", "2", "2486"}, {"b", "4", "4268"}, {"b", "8", "8426"}, {"b", "0", "073519"}, {"b", "5", "519073"},
		{"n", "5", "5"}, {"n", "1", "183406729"}, {"n", "0", "043816729"}, {"n", "6", "61834927"},
		{"k", "5", "5123684709"}, {"k", "0", "0741235689"}, {"r", "0", "0213645879"}, {"r", "9", "9312056478"},
	} {
		if got, ok := impl.LongestOnce(c.piece, c.key); got != c.walk || !ok {
			t.Errorf("LongestOnce %s, %s: %s %v", c.piece, c.key, got, ok)
		}
	}
}

func TestCountOnceByHand(t *testing.T) {
	for _, c := range []struct {
		piece, key  string
		long, count int
	}{
		{"n", "5", 1, 1}, {"n", "5", 2, 0}, {"n", "5", 10, 0}, {"n", "1", 2, 2}, {"n", "0", 9, 4}, {"n", "0", 10, 0}, {"b", "2", 3, 2}, {"b", "2", 4, 2}, {"b", "2", 5, 0},
		{"k", "5", 1, 1}, {"k", "5", 2, 8}, {"k", "5", 3, 27}, {"k", "0", 10, 326}, {"r", "5", 10, 232}, {"b", "1", 6, 5}, {"b", "1", 10, 0},
	} {
		if got, ok := impl.CountOnce(c.piece, c.key, c.long); got != c.count || !ok {
			t.Errorf("CountOnce %s, %s, %d: %d %v", c.piece, c.key, c.long, got, ok)
		}
	}
}
