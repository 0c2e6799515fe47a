package tests

import (
	"fmt"
	"math/rand"
	"slices"
	"strings"
	"testing"

	"loop.example/g01350/impl"
)

// fitByHand goes on digit by digit: each free start has ten longer ones, of which codes take theirs.
func fitByHand(lengths []int) bool {
	starts := 1
	for long := 1; long <= impl.MaxCode; long++ {
		starts *= 10
		for _, other := range lengths {
			if other == long {
				starts--
			}
		}
		if starts < 0 {
			return false
		}
	}
	return true
}

// planByHand gives to each code, the shortest ones first, the number behind that of the code before it, as a text that is filled up with zeros.
func planByHand(lengths []int) []string {
	ordered := slices.Sorted(slices.Values(lengths))
	var plan []string
	next := 0
	for i, long := range ordered {
		if i > 0 {
			next *= tens[long-ordered[i-1]]
		}
		if next >= tens[long] {
			return nil
		}
		plan = append(plan, fmt.Sprintf("%0*d", long, next))
		next++
	}
	return plan
}

// triedByHand gives to each code, the shortest ones first, the first text that is apart from all others.
func triedByHand(lengths []int) []string {
	var plan []string
	for _, long := range slices.Sorted(slices.Values(lengths)) {
		texts := wordsOf(walkDigits, long)
		at := slices.IndexFunc(texts, func(code string) bool { return isApartFromAll(plan, code) })
		if at < 0 {
			return nil
		}
		plan = append(plan, texts[at])
	}
	return plan
}

func holdLengths(t *testing.T, lengths []int, want []string) {
	t.Helper()
	got, ok := impl.PlanOfLengths(lengths)
	if !slices.Equal(got, want) || ok != (want != nil) {
		t.Errorf("PlanOfLengths %v: %q %v, not %q", lengths, got, ok, want)
	}
	if can, fine := impl.ArePossible(lengths); can != (want != nil) || !fine {
		t.Errorf("ArePossible %v: %v %v", lengths, can, fine)
	}
	if !ok {
		return
	}
	if !impl.IsCodePlan(got) {
		t.Errorf("PlanOfLengths %v: %q is no plan", lengths, got)
	}
	if back, ok := impl.LengthsOf(got); !slices.Equal(back, slices.Sorted(slices.Values(lengths))) || !ok {
		t.Errorf("LengthsOf %q: %v %v", got, back, ok)
	}
}

// lengthsWith has so many lengths of 1, of 2 and so on.
func lengthsWith(counts ...int) []int {
	var lengths []int
	for i, count := range counts {
		lengths = append(lengths, slices.Repeat([]int{i + 1}, count)...)
	}
	return lengths
}

func shuffled(random *rand.Rand, lengths []int) []int {
	mixed := slices.Clone(lengths)
	random.Shuffle(len(mixed), func(i int, j int) { mixed[i], mixed[j] = mixed[j], mixed[i] })
	return mixed
}

// edgeLengths just fit, or do not by a single code.
func edgeLengths() [][]int {
	return [][]int{
		lengthsWith(10), lengthsWith(11), lengthsWith(20), lengthsWith(9, 10), lengthsWith(9, 11), lengthsWith(9, 9), lengthsWith(9, 10, 0, 0, 0, 1), lengthsWith(10, 0, 0, 0, 0, 1), lengthsWith(10, 1), lengthsWith(9, 9, 0, 0, 0, 2), lengthsWith(9, 9, 2), lengthsWith(9, 0, 0, 0, 0, 11),
		lengthsWith(9, 1, 1, 1, 1, 1), lengthsWith(0, 20), lengthsWith(0, 0, 0, 0, 0, 20), lengthsWith(1), lengthsWith(0, 0, 0, 0, 0, 1), lengthsWith(8, 12), lengthsWith(0, 0, 20), lengthsWith(10, 0, 0, 0, 0, 10), lengthsWith(19, 1), lengthsWith(9, 8, 3),
	}
}

func TestLengthsThatFit(t *testing.T) {
	random := rand.New(rand.NewSource(87))
	all := edgeLengths()
	for range 1500 {
		var lengths []int
		for range 1 + random.Intn(impl.MaxCodes) {
			lengths = append(lengths, 1+min(random.Intn(impl.MaxCode), random.Intn(impl.MaxCode)))
		}
		all = append(all, lengths)
	}
	for _, lengths := range all {
		want := planByHand(lengths)
		if fitByHand(lengths) != (want != nil) {
			t.Fatalf("%v: %q", lengths, want)
		}
		backward := slices.Clone(lengths)
		slices.Reverse(backward)
		for _, ordered := range [][]int{lengths, backward, shuffled(random, lengths)} {
			holdLengths(t, ordered, want)
		}
	}
}

// TestShortLengths gives all lengths of up to three digits in any order, and tries all texts.
func TestShortLengths(t *testing.T) {
	for count := 1; count <= 5; count++ {
		for _, digits := range wordsOf("123", count) {
			var lengths []int
			for i := range digits {
				lengths = append(lengths, int(digits[i]-'0'))
			}
			holdLengths(t, lengths, triedByHand(lengths))
		}
	}
	for ones := range 12 {
		for twos := range 12 {
			for threes := range 3 {
				lengths := lengthsWith(ones, twos, threes)
				if 1 <= len(lengths) && len(lengths) <= impl.MaxCodes {
					holdLengths(t, lengths, triedByHand(lengths))
				}
			}
		}
	}
}

// TestAllLengths asks of all lengths there are, in order, whether they are possible.
func TestAllLengths(t *testing.T) {
	var hold func(lengths []int, from int)
	hold = func(lengths []int, from int) {
		if len(lengths) > 0 {
			if can, ok := impl.ArePossible(lengths); can != fitByHand(lengths) || !ok {
				t.Errorf("ArePossible %v: %v %v", lengths, can, ok)
			}
		}
		if len(lengths) == impl.MaxCodes {
			return
		}
		for long := from; long <= impl.MaxCode; long++ {
			hold(append(lengths, long), long)
		}
	}
	hold(nil, 1)
}

func TestLengthsByHand(t *testing.T) {
	for _, c := range []struct {
		lengths []int
		plan    string
	}{
		{[]int{1, 1, 2}, "0,1,20"}, {[]int{2, 1, 1}, "0,1,20"}, {[]int{1, 2, 1}, "0,1,20"}, {[]int{1}, "0"}, {[]int{6}, "000000"}, {[]int{6, 6}, "000000,000001"}, {[]int{3, 2, 1}, "0,10,110"}, {[]int{6, 1}, "0,100000"}, {[]int{2, 2, 3, 1}, "0,10,11,120"},
		{lengthsWith(10), "0,1,2,3,4,5,6,7,8,9"}, {lengthsWith(9, 10), "0,1,2,3,4,5,6,7,8,90,91,92,93,94,95,96,97,98,99"}, {lengthsWith(0, 12), "00,01,02,03,04,05,06,07,08,09,10,11"}, {lengthsWith(0, 20), twenty},
		{lengthsWith(9, 9, 0, 0, 0, 2), "0,1,2,3,4,5,6,7,8,90,91,92,93,94,95,96,97,98,990000,990001"}, {[]int{6, 5, 4, 3, 2, 1}, "0,10,110,1110,11110,111110"},
		{lengthsWith(11), ""}, {lengthsWith(10, 0, 0, 0, 0, 1), ""}, {lengthsWith(9, 11), ""}, {lengthsWith(9, 10, 0, 0, 0, 1), ""}, {append([]int{6}, lengthsWith(10)...), ""},
	} {
		got, ok := impl.PlanOfLengths(c.lengths)
		if strings.Join(got, ",") != c.plan || ok != (c.plan != "") {
			t.Errorf("PlanOfLengths %v: %q %v, not %s", c.lengths, got, ok, c.plan)
		}
		if can, ok := impl.ArePossible(c.lengths); can != (c.plan != "") || !ok {
			t.Errorf("ArePossible %v: %v %v", c.lengths, can, ok)
		}
	}
}

func TestLengthsOf(t *testing.T) {
	for _, plan := range append(areaPlans(), randomPlans(300)...) {
		var want []int
		for long := 1; long <= impl.MaxCode; long++ {
			for _, code := range plan {
				if len(code) == long {
					want = append(want, long)
				}
			}
		}
		got, ok := impl.LengthsOf(plan)
		if !slices.Equal(got, want) || !ok {
			t.Errorf("LengthsOf %q: %v %v", plan, got, ok)
		}
		if can, ok := impl.ArePossible(got); !can || !ok {
			t.Errorf("ArePossible %v, those of %q: %v %v", got, plan, can, ok)
		}
		holdLengths(t, got, planByHand(got))
	}
	for text, want := range map[string][]int{"0,11,12,3": {1, 1, 2, 2}, "5": {1}, "555555": {6}, "000000,1,20": {1, 2, 6}, "000,1,20": {1, 2, 3}} {
		if got, ok := impl.LengthsOf(codesOf(text)); !slices.Equal(got, want) || !ok {
			t.Errorf("LengthsOf %s: %v %v", text, got, ok)
		}
	}
}
