package tests

import (
	"slices"
	"strings"
	"testing"

	"loop.example/g01350/impl"
)

// shortestWalks lists for each digit all walks of the fewest steps to it, in order: none that goes on from a digit seen twice is one.
func shortestWalks(piece string, key string) map[string][]string {
	shortest := map[string][]string{}
	for long := 1; long <= len(walkDigits); long++ {
		found := map[string][]string{}
		for _, walk := range onceFrom(piece, key, long) {
			to := walk[len(walk)-1:]
			if shortest[to] == nil {
				found[to] = append(found[to], walk)
			}
		}
		for to, walks := range found {
			shortest[to] = walks
		}
	}
	return shortest
}

// holdWays holds what is told of the ways from a key against all shortest walks.
func holdWays(t *testing.T, piece string, key string) {
	t.Helper()
	walks := shortestWalks(piece, key)
	reached, far := "", make([]int, len(walkDigits))
	for digit, to := range splitDigits() {
		far[digit] = -1
		first, count := "", len(walks[to])
		if count > 0 {
			reached += to
			first = walks[to][0]
			far[digit] = len(first) - 1
		}
		if got, ok := impl.FirstWalk(piece, key, to); got != first || ok != (count > 0) {
			t.Errorf("FirstWalk %s, %s, %s: %q %v, not %q", piece, key, to, got, ok, first)
		}
		if got, ok := impl.CountShortest(piece, key, to); got != count || ok != (count > 0) {
			t.Errorf("CountShortest %s, %s, %s: %d %v, not %d", piece, key, to, got, ok, count)
		}
	}
	if got, ok := impl.ReachedKeys(piece, key); got != reached || !ok {
		t.Errorf("ReachedKeys %s, %s: %s %v, not %s", piece, key, got, ok, reached)
	}
	if got, ok := impl.KeyDistances(piece, key); !slices.Equal(got, far) || !ok {
		t.Errorf("KeyDistances %s, %s: %v %v, not %v", piece, key, got, ok, far)
	}
}

func TestWays(t *testing.T) {
	for _, piece := range pieces {
		for _, key := range splitDigits() {
			holdWays(t, piece, key)
		}
	}
}

// TestWaysAddUp holds the package against itself: distances go both ways, differ by 1 along a step at most, and shortest walks begin with a step to a nearer key.
func TestWaysAddUp(t *testing.T) {
	for _, piece := range pieces {
		for to, end := range splitDigits() {
			far, _ := impl.KeyDistances(piece, end)
			for from, key := range splitDigits() {
				back, _ := impl.KeyDistances(piece, key)
				if back[to] != far[from] {
					t.Errorf("%s, %s and %s: %d steps, but %d back", piece, key, end, far[from], back[to])
				}
				walk, ok := impl.FirstWalk(piece, key, end)
				if is, _ := impl.IsWalk(piece, walk); is != ok || len(walk) != far[from]+1 {
					t.Errorf("FirstWalk %s, %s, %s: %q %v in %d steps", piece, key, end, walk, ok, far[from])
				}
				if far[from] <= 0 {
					continue
				}
				count, _ := impl.CountShortest(piece, key, end)
				nexts, _ := impl.NextKeys(piece, key)
				for _, next := range strings.Split(nexts, "") {
					if far[next[0]-'0'] == far[from]-1 {
						rest, _ := impl.CountShortest(piece, next, end)
						count -= rest
					}
				}
				if count != 0 {
					t.Errorf("CountShortest %s, %s, %s is %d more than the sum over nearer keys", piece, key, end, count)
				}
			}
		}
	}
}

func TestFirstWalkByHand(t *testing.T) {
	for _, c := range []struct {
		piece, from, to, walk string
		count                 int
	}{
		{"n", "1", "9", "16049", 3}, {"n", "9", "1", "92761", 3}, {"n", "1", "8", "18", 1}, {"n", "1", "0", "160", 1}, {"n", "1", "7", "167", 1}, {"n", "2", "8", "27618", 2},
		{"n", "1", "5", "", 0}, {"n", "5", "1", "", 0}, {"n", "5", "0", "", 0}, {"n", "5", "5", "5", 1}, {"n", "1", "1", "1", 1}, {"n", "0", "0", "0", 1},
		{"k", "1", "9", "159", 1}, {"k", "0", "2", "0742", 7}, {"k", "1", "3", "123", 2}, {"k", "5", "5", "5", 1}, {"r", "1", "9", "139", 2}, {"r", "0", "1", "021", 1}, {"r", "0", "2", "02", 1},
		{"b", "2", "8", "248", 2}, {"b", "2", "1", "", 0}, {"b", "0", "2", "", 0}, {"b", "0", "3", "073", 1}, {"b", "0", "5", "075", 2}, {"b", "1", "9", "19", 1}, {"b", "8", "8", "8", 1},
	} {
		if got, ok := impl.FirstWalk(c.piece, c.from, c.to); got != c.walk || ok != (c.count > 0) {
			t.Errorf("FirstWalk %s, %s, %s: %q %v", c.piece, c.from, c.to, got, ok)
		}
		if got, ok := impl.CountShortest(c.piece, c.from, c.to); got != c.count || ok != (c.count > 0) {
			t.Errorf("CountShortest %s, %s, %s: %d %v", c.piece, c.from, c.to, got, ok)
		}
	}
}

func TestReachedByHand(t *testing.T) {
	for _, c := range []struct {
		piece, key, reached string
		far                 []int
	}{
		{"n", "5", "5", []int{-1, -1, -1, -1, -1, 0, -1, -1, -1, -1}},
		{"n", "0", "012346789", []int{0, 2, 3, 2, 1, -1, 1, 2, 3, 2}},
		{"n", "1", "012346789", []int{2, 0, 3, 2, 3, -1, 1, 2, 1, 4}},
		{"b", "2", "2468", []int{-1, -1, 0, -1, 1, -1, 1, -1, 2, -1}},
		{"b", "0", "013579", []int{0, 2, -1, 2, -1, 2, -1, 1, -1, 1}},
		{"k", "0", walkDigits, []int{0, 3, 3, 3, 2, 2, 2, 1, 1, 1}},
		{"r", "0", walkDigits, []int{0, 2, 1, 2, 2, 1, 2, 2, 1, 2}},
	} {
		if got, ok := impl.ReachedKeys(c.piece, c.key); got != c.reached || !ok {
			t.Errorf("ReachedKeys %s, %s: %s %v", c.piece, c.key, got, ok)
		}
		if got, ok := impl.KeyDistances(c.piece, c.key); !slices.Equal(got, c.far) || !ok {
			t.Errorf("KeyDistances %s, %s: %v %v", c.piece, c.key, got, ok)
		}
	}
}
