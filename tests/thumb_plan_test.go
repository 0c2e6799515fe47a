package tests

import (
	"math"
	"math/rand"
	"slices"
	"strings"
	"testing"

	"loop.example/g01350/impl"
)

// plansOf returns all plans for so many keys, in their order.
func plansOf(keys int) [][]int {
	plans := [][]int{nil}
	for range keys {
		var longer [][]int
		for _, plan := range plans {
			for thumb := range 2 {
				longer = append(longer, append(slices.Clone(plan), thumb))
			}
		}
		plans = longer
	}
	return plans
}

// planSteps lets each thumb press its own keys alone, one behind the other.
func planSteps(keys string, left string, right string, plan []int, corners bool) int {
	own := [2]string{}
	for i, thumb := range plan {
		own[thumb] += keys[i : i+1]
	}
	return stepsOf(own[0], left, corners) + stepsOf(own[1], right, corners)
}

// bestPlans are the fewest steps of plans, the first plan with so few, and how many have so few.
type bestPlans struct {
	steps int
	first []int
	count int
}

func tryPlans(keys string, left string, right string, corners bool) bestPlans {
	best := bestPlans{steps: math.MaxInt}
	for _, plan := range plansOf(len(keys)) {
		steps := planSteps(keys, left, right, plan, corners)
		if steps < best.steps {
			best = bestPlans{steps, plan, 0}
		}
		if steps == best.steps {
			best.count++
		}
	}
	return best
}

// followPlans goes on from key to key with the best plans for all places of the thumbs, so that it does for many keys.
func followPlans(keys string, left string, right string, corners bool) bestPlans {
	reached := map[string]bestPlans{left + right: {count: 1}}
	for i := range len(keys) {
		next := map[string]bestPlans{}
		for at, best := range reached {
			steps := dialSteps[corners]
			join(next, keys[i:i+1]+at[1:], bestPlans{best.steps + steps[at[0]][keys[i]], append(slices.Clone(best.first), 0), best.count})
			join(next, at[:1]+keys[i:i+1], bestPlans{best.steps + steps[at[1]][keys[i]], append(slices.Clone(best.first), 1), best.count})
		}
		reached = next
	}
	all := map[string]bestPlans{}
	for _, best := range reached {
		join(all, "", best)
	}
	return all[""]
}

func join(reached map[string]bestPlans, at string, more bestPlans) {
	best, is := reached[at]
	switch {
	case !is || more.steps < best.steps:
		best = more
	case more.steps == best.steps:
		best.count += more.count
		if slices.Compare(more.first, best.first) < 0 {
			best.first = more.first
		}
	}
	reached[at] = best
}

func holdTwoThumbs(t *testing.T, keys string, left string, right string, corners bool, best bestPlans) {
	t.Helper()
	if steps, ok := impl.TwoThumbs(keys, left, right, corners); steps != best.steps || !ok {
		t.Fatalf("TwoThumbs %q, %s, %s, %v: %d %v, not %d", keys, left, right, corners, steps, ok, best.steps)
	}
	if count, ok := impl.CountThumbs(keys, left, right, corners); count != best.count || !ok {
		t.Fatalf("CountThumbs %q, %s, %s, %v: %d %v, not %d", keys, left, right, corners, count, ok, best.count)
	}
	plan, ok := impl.FirstThumbs(keys, left, right, corners)
	if !slices.Equal(plan, best.first) || !ok {
		t.Fatalf("FirstThumbs %q, %s, %s, %v: %v %v, not %v", keys, left, right, corners, plan, ok, best.first)
	}
	if steps, ok := impl.ThumbPlan(keys, left, right, plan, corners); steps != best.steps || !ok {
		t.Fatalf("ThumbPlan %q, %s, %s, %v, %v: %d %v, not %d", keys, left, right, plan, corners, steps, ok, best.steps)
	}
	for _, start := range []string{left, right} {
		if steps, ok := impl.OneThumb(keys, start, corners); steps < best.steps || !ok {
			t.Fatalf("OneThumb %q, %s, %v: %d %v, less than two make", keys, start, corners, steps, ok)
		}
	}
}

func randomKeys(random *rand.Rand, count int) string {
	var keys strings.Builder
	for range count {
		keys.WriteByte(dialSigns[random.Intn(len(dialSigns))])
	}
	return keys.String()
}

func TestTwoThumbsOfFewKeys(t *testing.T) {
	random := rand.New(rand.NewSource(3))
	samples := append(wordsOf(dialSigns, 1), "", "11", "19", "28", "1379", "55555", "*0#", "1#1#", "123456")
	for count := 2; count <= 9; count++ {
		for range 12 {
			samples = append(samples, randomKeys(random, count))
		}
	}
	for _, keys := range samples {
		for _, corners := range bothCorners {
			for range 4 {
				left, right := randomKeys(random, 1), randomKeys(random, 1)
				holdTwoThumbs(t, keys, left, right, corners, tryPlans(keys, left, right, corners))
				holdTwoThumbs(t, keys, left, left, corners, tryPlans(keys, left, left, corners))
			}
		}
	}
}

func TestTwoThumbsOfAllStarts(t *testing.T) {
	for _, keys := range []string{"", "5", "1379", "*505"} {
		for _, starts := range wordsOf(dialSigns, 2) {
			left, right := starts[:1], starts[1:]
			for _, corners := range bothCorners {
				holdTwoThumbs(t, keys, left, right, corners, tryPlans(keys, left, right, corners))
			}
		}
	}
}

func TestTwoThumbsOfManyKeys(t *testing.T) {
	random := rand.New(rand.NewSource(30))
	samples := slices.Clone(dialSamples)
	for range 40 {
		samples = append(samples, randomKeys(random, 10+random.Intn(impl.MaxDialed-9)), randomKeys(random, impl.MaxDialed))
	}
	for _, keys := range samples {
		for _, corners := range bothCorners {
			for _, starts := range []string{"46", "55", randomKeys(random, 2)} {
				left, right := starts[:1], starts[1:]
				holdTwoThumbs(t, keys, left, right, corners, followPlans(keys, left, right, corners))
			}
		}
	}
}

func TestTwoThumbsByHand(t *testing.T) {
	for _, c := range []struct {
		keys, left, right string
		corners           bool
		steps             int
		first             []int
		count             int
	}{
		{"1379", "4", "6", false, 6, []int{0, 1, 0, 0}, 2},
		{"", "4", "6", false, 0, nil, 1},
		{"", "5", "5", true, 0, nil, 1},
		{"5", "5", "5", false, 0, []int{0}, 2},
		{"5", "4", "6", false, 1, []int{0}, 2},
		{"5", "1", "6", false, 1, []int{1}, 1},
		{"5", "1", "6", true, 1, []int{0}, 2},
		{"555", "1", "6", false, 1, []int{1, 1, 1}, 1},
		{"1#1#", "1", "#", false, 0, []int{0, 1, 0, 1}, 1},
		{"1#1#", "#", "1", false, 0, []int{1, 0, 1, 0}, 1},
	} {
		holdTwoThumbs(t, c.keys, c.left, c.right, c.corners, bestPlans{c.steps, c.first, c.count})
	}
}

// TestMostPlans has all plans of the most keys as good; there are never more, so that no count comes to MaxThumbPlans.
func TestMostPlans(t *testing.T) {
	if impl.MaxThumbPlans != 1000000000000000 {
		t.Error("MaxThumbPlans", impl.MaxThumbPlans)
	}
	keys := strings.Repeat("5", impl.MaxDialed)
	for _, corners := range bothCorners {
		holdTwoThumbs(t, keys, "5", "5", corners, bestPlans{0, make([]int, impl.MaxDialed), 1 << impl.MaxDialed})
		holdTwoThumbs(t, keys, "4", "6", corners, bestPlans{1, make([]int, impl.MaxDialed), 2})
	}
}

func TestThumbPlan(t *testing.T) {
	for _, keys := range []string{"", "5", "19", "1379", "*505", "11#11"} {
		for _, starts := range []string{"46", "55", "1#", "#1"} {
			for _, plan := range plansOf(len(keys)) {
				for _, corners := range bothCorners {
					want := planSteps(keys, starts[:1], starts[1:], plan, corners)
					if got, ok := impl.ThumbPlan(keys, starts[:1], starts[1:], plan, corners); got != want || !ok {
						t.Fatalf("ThumbPlan %q, %s, %v, %v: %d %v, not %d", keys, starts, plan, corners, got, ok, want)
					}
				}
			}
		}
	}
	if steps, ok := impl.ThumbPlan("1379", "4", "6", []int{0, 1, 0, 1}, false); steps != 6 || !ok {
		t.Error("ThumbPlan by turns", steps, ok)
	}
	if steps, ok := impl.ThumbPlan("1379", "4", "6", []int{1, 1, 1, 1}, false); steps != 11 || !ok {
		t.Error("ThumbPlan of the right one alone", steps, ok)
	}
	if steps, ok := impl.ThumbPlan(longestDialed, "#", "5", make([]int, impl.MaxDialed), false); steps != 150 || !ok {
		t.Error("ThumbPlan of the longest way", steps, ok)
	}
}

func TestNoThumbPlan(t *testing.T) {
	plans := [][]int{
		nil, {}, {0}, {0, 1, 0}, {0, 1, 0, 1, 0}, {0, 0, 0, 0, 2}, make([]int, 1000),
		{2, 0, 0, 0}, {0, 0, 0, 2}, {0, -1, 0, 0}, {0, 0, math.MaxInt, 0}, {math.MinInt, 0, 0, 0}, {1, 1, 10, 1}, {256, 257, 0, 1},
	}
	for _, plan := range plans {
		if steps, ok := impl.ThumbPlan("1379", "4", "6", plan, false); steps != 0 || ok {
			t.Errorf("ThumbPlan %v: %d %v", plan, steps, ok)
		}
	}
	for _, plan := range [][]int{{0}, {1}, {2}, {0, 0}} {
		if steps, ok := impl.ThumbPlan("", "4", "6", plan, false); steps != 0 || ok {
			t.Errorf("ThumbPlan %v of no keys: %d %v", plan, steps, ok)
		}
	}
	if steps, ok := impl.ThumbPlan("", "4", "6", nil, false); steps != 0 || !ok {
		t.Error("ThumbPlan of no keys", steps, ok)
	}
}

func TestBestStarts(t *testing.T) {
	random := rand.New(rand.NewSource(7))
	samples := append(wordsOf(dialSigns, 1), dialSamples...)
	for count := 2; count <= impl.MaxDialed; count += 2 {
		samples = append(samples, randomKeys(random, count))
	}
	for _, keys := range samples {
		for _, corners := range bothCorners {
			best, fewest := "", math.MaxInt
			for _, starts := range wordsOf(dialSigns, 2) {
				if steps := followPlans(keys, starts[:1], starts[1:], corners).steps; steps < fewest {
					best, fewest = starts, steps
				}
			}
			left, right, steps, ok := impl.BestStarts(keys, corners)
			if left+right != best || steps != fewest || !ok {
				t.Errorf("BestStarts %q, %v: %s %s %d %v, not %s %d", keys, corners, left, right, steps, ok, best, fewest)
			}
		}
	}
}

func TestBestStartsByHand(t *testing.T) {
	for _, c := range []struct {
		keys, left, right string
		steps             int
	}{
		{"", "1", "1", 0}, {"1", "1", "1", 0}, {"#", "1", "#", 0}, {"1#1#", "1", "#", 0}, {"#1#", "1", "#", 0}, {"555", "1", "5", 0},
		{"1379", "1", "3", 4}, {"951", "1", "9", 2},
	} {
		if left, right, steps, ok := impl.BestStarts(c.keys, false); left != c.left || right != c.right || steps != c.steps || !ok {
			t.Errorf("BestStarts %q: %s %s %d %v", c.keys, left, right, steps, ok)
		}
	}
}
