package tests

import (
	"math/rand"
	"slices"
	"strings"
	"testing"

	"loop.example/g01350/impl"
)

// pairsWhere returns all two digits, the lesser one first and in order, for which something is so.
func pairsWhere(is func(a int, b int) bool) [][]int {
	var pairs [][]int
	for b := range 10 {
		for a := range b {
			if is(a, b) {
				pairs = append(pairs, []int{a, b})
			}
		}
	}
	slices.SortFunc(pairs, slices.Compare[[]int])
	return pairs
}

// pairsText makes pairs readable: "02 04".
func pairsText(pairs [][]int) string {
	var texts []string
	for _, pair := range pairs {
		text := ""
		for _, digit := range pair {
			text += checks[digit : digit+1]
		}
		texts = append(texts, text)
	}
	return strings.Join(texts, " ")
}

// allPairs are all two digits.
var allPairs = pairsWhere(func(a int, b int) bool { return true })

func samePairs(a [][]int, b [][]int) bool { return slices.EqualFunc(a, b, slices.Equal[[]int]) }

// restWith returns what is left of the sum of a number that has just these digits from a place on, and 0 elsewhere.
func restWith(s impl.Scheme, place int, digits ...int) int {
	number := []byte(strings.Repeat("0", len(s.Weights)+1))
	for i, digit := range digits {
		number[place+i] = walkDigits[digit]
	}
	return restByHand(s.Mod, sumByHand(s, string(number)))
}

// singlesByHand holds numbers with each of two digits against each other.
func singlesByHand(s impl.Scheme, place int) [][]int {
	return pairsWhere(func(a int, b int) bool { return restWith(s, place, a) == restWith(s, place, b) })
}

// swapsByHand holds numbers with two digits in both orders against each other.
func swapsByHand(s impl.Scheme, place int) [][]int {
	return pairsWhere(func(a int, b int) bool { return restWith(s, place, a, b) == restWith(s, place, b, a) })
}

// holdMissed holds all that is told of the errors that a scheme finds or misses.
func holdMissed(t *testing.T, s impl.Scheme) {
	t.Helper()
	singles, swaps := true, true
	last := len(s.Weights) - 1
	for place := range s.Weights {
		want := singlesByHand(s, place)
		if got, ok := impl.MissedSingles(s, place); !samePairs(got, want) || !ok {
			t.Errorf("MissedSingles %v, %d: %s %v, not %s", s, place, pairsText(got), ok, pairsText(want))
		}
		singles = singles && len(want) == 0
		want = nil
		if place < last {
			want = swapsByHand(s, place)
		}
		if got, ok := impl.MissedSwaps(s, place); !samePairs(got, want) || ok != (place < last) {
			t.Errorf("MissedSwaps %v, %d: %s %v, not %s", s, place, pairsText(got), ok, pairsText(want))
		}
		swaps = swaps && len(want) == 0
	}
	if got, ok := impl.FindsAllSingles(s); got != singles || !ok {
		t.Errorf("FindsAllSingles %v: %v %v", s, got, ok)
	}
	if got, ok := impl.FindsAllSwaps(s); got != swaps || !ok {
		t.Errorf("FindsAllSwaps %v: %v %v", s, got, ok)
	}
}

func TestMissed(t *testing.T) {
	random := rand.New(rand.NewSource(73))
	for _, s := range append(smallSchemes(), longSchemes(random, 40)...) {
		holdMissed(t, s)
	}
}

// TestMissedStayRight tries each error on all right numbers: just those that are missed leave them right.
func TestMissedStayRight(t *testing.T) {
	for _, s := range []impl.Scheme{
		schemeOf(11, 3, 2), schemeOf(10, 5, 1), schemeOf(10, 1, 6), schemeOf(10, 3, 3), schemeOf(2, 1, 0), schemeOf(6, 2, 5), schemeOf(9, 3, 6), schemeOf(8, 4, 2), schemeOf(4, 0, 0), schemeOf(11, 0, 10), schemeOf(10, 1, 8), schemeOf(3, 1, 1),
	} {
		right := rightNumbers(s)
		swaps, _ := impl.MissedSwaps(s, 0)
		singles := make([][][]int, 2)
		for place := range singles {
			singles[place], _ = impl.MissedSingles(s, place)
		}
		for _, pair := range allPairs {
			a, b := walkDigits[pair[0]:pair[0]+1], walkDigits[pair[1]:pair[1]+1]
			for _, number := range right {
				for place := range singles {
					if number[place:place+1] == a {
						holdStays(t, s, number, number[:place]+b+number[place+1:], isListedPair(singles[place], pair))
					}
				}
				if number[:2] == a+b {
					holdStays(t, s, number, b+a+number[2:], isListedPair(swaps, pair))
				}
			}
		}
	}
}

func isListedPair(pairs [][]int, pair []int) bool {
	return slices.ContainsFunc(pairs, func(listed []int) bool { return slices.Equal(listed, pair) })
}

// holdStays holds whether a right number stays right as another one.
func holdStays(t *testing.T, s impl.Scheme, number string, other string, missed bool) {
	t.Helper()
	if is, ok := impl.IsRight(s, other); is != missed || !ok {
		t.Errorf("%v has %s for %s: IsRight %v, but missed %v", s, other, number, is, missed)
	}
}

const (
	evenOrOdd   = "02 04 06 08 13 15 17 19 24 26 28 35 37 39 46 48 57 59 68 79"
	threeApart  = "03 06 09 14 17 25 28 36 39 47 58 69"
	fourApart   = "04 08 15 19 26 37 48 59"
	fiveApart   = "05 16 27 38 49"
	sixApart    = "06 17 28 39"
	nineApart   = "09"
	everyPair   = "01 02 03 04 05 06 07 08 09 12 13 14 15 16 17 18 19 23 24 25 26 27 28 29 34 35 36 37 38 39 45 46 47 48 49 56 57 58 59 67 68 69 78 79 89"
	missesNever = ""
)

func TestMissedSinglesByHand(t *testing.T) {
	for _, c := range []struct {
		s     impl.Scheme
		place int
		pairs string
	}{
		{schemeOf(10, 5, 1), 0, evenOrOdd}, {schemeOf(10, 5, 1), 1, missesNever}, {schemeOf(10, 1, 6), 0, missesNever}, {schemeOf(10, 1, 6), 1, fiveApart}, {schemeOf(10, 0), 0, everyPair},
		{schemeOf(2, 0), 0, everyPair}, {schemeOf(2, 1), 0, evenOrOdd}, {schemeOf(3, 2), 0, threeApart}, {schemeOf(4, 3), 0, fourApart}, {schemeOf(4, 2), 0, evenOrOdd}, {schemeOf(9, 8), 0, nineApart}, {schemeOf(9, 3), 0, threeApart}, {schemeOf(9, 0), 0, everyPair},
		{schemeOf(11, 10), 0, missesNever}, {schemeOf(12, 11), 0, missesNever}, {schemeOf(12, 2), 0, sixApart}, {schemeOf(12, 3), 0, fourApart}, {schemeOf(12, 4), 0, threeApart}, {schemeOf(12, 6), 0, evenOrOdd}, {schemeOf(12, 8), 0, threeApart}, {schemeOf(12, 9), 0, fourApart}, {schemeOf(12, 10), 0, sixApart},
		// No right number has 1 or 2 here, so that neither can be taken for the other one.
		{schemeOf(13, 1), 0, missesNever}, {schemeOf(13, 12), 0, missesNever}, {schemeOf(13, 0), 0, everyPair},
		{schemeOf(12, 6, 1, 1, 1, 1, 1, 1, 1, 1, 1, 1, 4), 0, evenOrOdd}, {schemeOf(12, 6, 1, 1, 1, 1, 1, 1, 1, 1, 1, 1, 4), 5, missesNever}, {schemeOf(12, 6, 1, 1, 1, 1, 1, 1, 1, 1, 1, 1, 4), 11, threeApart},
	} {
		if got, ok := impl.MissedSingles(c.s, c.place); pairsText(got) != c.pairs || !ok {
			t.Errorf("MissedSingles %v, %d: %s %v", c.s, c.place, pairsText(got), ok)
		}
	}
}

func TestMissedSwapsByHand(t *testing.T) {
	for _, c := range []struct {
		s     impl.Scheme
		place int
		pairs string
	}{
		{schemeOf(10, 1, 6), 0, evenOrOdd}, {schemeOf(10, 6, 1), 0, evenOrOdd}, {schemeOf(10, 1, 3), 0, fiveApart}, {schemeOf(10, 3, 1), 0, fiveApart}, {schemeOf(10, 9, 1), 0, fiveApart}, {schemeOf(10, 3, 3), 0, everyPair}, {schemeOf(10, 0, 9), 0, missesNever},
		{schemeOf(2, 0, 1), 0, evenOrOdd}, {schemeOf(2, 1, 0), 0, evenOrOdd}, {schemeOf(2, 1, 1), 0, everyPair}, {schemeOf(2, 0, 0), 0, everyPair}, {schemeOf(11, 3, 2), 0, missesNever}, {schemeOf(11, 0, 10), 0, missesNever}, {schemeOf(9, 0, 8), 0, nineApart}, {schemeOf(9, 1, 7), 0, threeApart},
		{schemeOf(12, 2, 0), 0, sixApart}, {schemeOf(12, 0, 10), 0, sixApart}, {schemeOf(12, 11, 3), 0, threeApart}, {schemeOf(12, 1, 10), 0, fourApart}, {schemeOf(13, 12, 0), 0, missesNever}, {schemeOf(13, 12, 12), 0, everyPair},
		// Both orders add the same, even where no check makes the number right, as for 0 and 1 here.
		{schemeOf(12, 1, 1), 0, everyPair}, {schemeOf(13, 1, 1), 0, everyPair},
		{schemeOf(10, 1, 1, 2, 3, 4, 5, 6, 7, 8, 9, 0, 5), 0, everyPair}, {schemeOf(10, 1, 1, 2, 3, 4, 5, 6, 7, 8, 9, 0, 5), 1, missesNever}, {schemeOf(10, 1, 1, 2, 3, 4, 5, 6, 7, 8, 9, 0, 5), 9, missesNever}, {schemeOf(10, 1, 1, 2, 3, 4, 5, 6, 7, 8, 9, 0, 5), 10, evenOrOdd},
	} {
		if got, ok := impl.MissedSwaps(c.s, c.place); pairsText(got) != c.pairs || !ok {
			t.Errorf("MissedSwaps %v, %d: %s %v", c.s, c.place, pairsText(got), ok)
		}
	}
}

// TestNoSwapsAtLast holds that the digit at the last place is not exchanged with the check.
func TestNoSwapsAtLast(t *testing.T) {
	for weights := 1; weights <= impl.MaxDigits; weights++ {
		for weight := range 2 {
			s := sameWeights(2, weight, weights)
			if got, ok := impl.MissedSwaps(s, weights-1); got != nil || ok {
				t.Errorf("MissedSwaps %v, %d: %v %v", s, weights-1, got, ok)
			}
		}
	}
}

func TestFindsAllByHand(t *testing.T) {
	for _, c := range []struct {
		s              impl.Scheme
		singles, swaps bool
	}{
		{schemeOf(11, 10, 9, 8, 7, 6, 5, 4, 3, 2), true, true}, {schemeOf(10, 1, 3, 1, 3, 1, 3, 1, 3, 1, 3, 1, 3), true, false}, {schemeOf(11, 3, 2), true, true}, {schemeOf(10, 5, 1), false, false}, {schemeOf(10, 1, 6), false, false}, {schemeOf(10, 1, 2), false, true},
		{sameWeights(13, 0, 12), false, false}, {sameWeights(13, 12, 12), true, false}, {schemeOf(13, 1, 2, 3, 4, 5, 6, 7, 8, 9, 10, 11, 12), true, true}, {schemeOf(2, 1), false, true}, {schemeOf(2, 0), false, true}, {schemeOf(2, 0, 1), false, false},
		// There is nothing to exchange where there is but one weight.
		{schemeOf(13, 0), false, true}, {schemeOf(13, 12), true, true}, {schemeOf(11, 1), true, true},
		// Only the first place misses any, or only the last one.
		{schemeOf(11, 0, 1, 2), false, true}, {schemeOf(11, 2, 1, 0), false, true}, {schemeOf(11, 2, 2, 1), true, false}, {schemeOf(11, 1, 2, 2), true, false}, {schemeOf(12, 11, 7, 5, 10), false, false}, {schemeOf(12, 1, 2), false, true},
		// Equal weights that are no neighbours.
		{schemeOf(11, 1, 2, 1, 2), true, true},
	} {
		if got, ok := impl.FindsAllSingles(c.s); got != c.singles || !ok {
			t.Errorf("FindsAllSingles %v: %v %v", c.s, got, ok)
		}
		if got, ok := impl.FindsAllSwaps(c.s); got != c.swaps || !ok {
			t.Errorf("FindsAllSwaps %v: %v %v", c.s, got, ok)
		}
	}
}
