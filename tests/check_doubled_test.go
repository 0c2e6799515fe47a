package tests

import (
	"math/rand"
	"slices"
	"strings"
	"testing"

	"loop.example/g01350/impl"
)

// doubledAs has what each digit becomes when it is doubled.
const doubledAs = "0246813579"

// doubledByHand adds the digits of a number from the last one back.
func doubledByHand(number string) int {
	sum, doubled := 0, false
	for place := len(number) - 1; place >= 0; place-- {
		digit := number[place]
		if doubled {
			digit = doubledAs[digit-'0']
		}
		sum += int(digit - '0')
		doubled = !doubled
	}
	return sum
}

func holdDoubled(t *testing.T, number string) {
	t.Helper()
	want := doubledByHand(number)
	if got, ok := impl.DoubledSum(number); got != want || !ok {
		t.Errorf("DoubledSum %s: %d %v, not %d", number, got, ok, want)
	}
	if got, ok := impl.IsDoubledRight(number); got != (want%10 == 0) || !ok {
		t.Errorf("IsDoubledRight %s: %v %v, with %d", number, got, ok, want)
	}
}

func holdDoubledCheck(t *testing.T, digits string) {
	t.Helper()
	want := ""
	for _, check := range splitDigits() {
		if doubledByHand(digits+check)%10 == 0 {
			want += check
		}
	}
	got, ok := impl.DoubledCheck(digits)
	if got != want || !ok {
		t.Errorf("DoubledCheck %s: %s %v, not %s", digits, got, ok, want)
	}
	if is, ok := impl.IsDoubledRight(digits + got); !is || !ok {
		t.Errorf("IsDoubledRight %s%s: %v %v", digits, got, is, ok)
	}
}

func TestDoubled(t *testing.T) {
	for long := 2; long <= 4; long++ {
		for _, number := range wordsOf(walkDigits, long) {
			holdDoubled(t, number)
		}
	}
	random := rand.New(rand.NewSource(80))
	for long := 5; long <= impl.MaxDigits; long++ {
		for range 1000 {
			holdDoubled(t, randomPin(random, walkDigits, long))
		}
	}
}

func TestDoubledCheck(t *testing.T) {
	for long := 1; long <= 3; long++ {
		for _, digits := range wordsOf(walkDigits, long) {
			holdDoubledCheck(t, digits)
		}
	}
	random := rand.New(rand.NewSource(81))
	for long := 4; long < impl.MaxDigits; long++ {
		for range 500 {
			holdDoubledCheck(t, randomPin(random, walkDigits, long))
		}
	}
}

func TestDoubledByHand(t *testing.T) {
	for _, c := range []struct {
		number string
		sum    int
	}{
		{"79927398713", 70}, {"79927398710", 67}, {"00", 0}, {"18", 10}, {"81", 8}, {"59", 10}, {"91", 10}, {"50", 1}, {"05", 5}, {"90", 9}, {"09", 9}, {"99", 18}, {"000", 0}, {"123", 8}, {"909", 18}, {"090", 9},
		{"999999999999", 108}, {"100000000000", 2}, {"500000000000", 1}, {"000000000001", 1}, {"000000000010", 2}, {"99999999999", 99}, {"50000000000", 5}, {"123456789012", 47},
	} {
		if got, ok := impl.DoubledSum(c.number); got != c.sum || !ok {
			t.Errorf("DoubledSum %s: %d %v", c.number, got, ok)
		}
		if got, ok := impl.IsDoubledRight(c.number); got != (c.sum%10 == 0) || !ok {
			t.Errorf("IsDoubledRight %s: %v %v", c.number, got, ok)
		}
	}
	for _, c := range [][2]string{{"7992739871", "3"}, {"0", "0"}, {"1", "8"}, {"5", "9"}, {"9", "1"}, {"00", "0"}, {"12", "5"}, {"00000000000", "0"}, {"99999999999", "1"}, {"12345678901", "5"}} {
		if got, ok := impl.DoubledCheck(c[0]); got != c[1] || !ok {
			t.Errorf("DoubledCheck %s: %s %v", c[0], got, ok)
		}
	}
}

// TestDoubledMissed exchanges all neighbours in numbers that are right by doubling: just those that are missed leave them right.
func TestDoubledMissed(t *testing.T) {
	if got := impl.DoubledMissed(); !samePairs(got, [][]int{{0, 9}}) {
		t.Fatal("DoubledMissed", got)
	}
	for _, pair := range allPairs {
		a, b := walkDigits[pair[0]:pair[0]+1], walkDigits[pair[1]:pair[1]+1]
		missed := isListedPair(impl.DoubledMissed(), pair)
		for _, rest := range wordsOf("0369", 2) {
			check, _ := impl.DoubledCheck(rest + a + b)
			for _, number := range []string{rest + b + a + check, strings.Repeat("0", 7) + rest + b + a + check} {
				if is, ok := impl.IsDoubledRight(number); is != missed || !ok {
					t.Errorf("IsDoubledRight %s: %v %v, but %v missed: %v", number, is, ok, pair, missed)
				}
			}
		}
	}
}

// TestMissedAreNew writes into results, and into the room behind them: later ones may not change by this.
func TestMissedAreNew(t *testing.T) {
	s := schemeOf(10, 5, 5)
	for range 2 {
		doubled := impl.DoubledMissed()
		singles, _ := impl.MissedSingles(s, 1)
		swaps, _ := impl.MissedSwaps(s, 0)
		if pairsText(doubled) != nineApart || pairsText(singles) != evenOrOdd || pairsText(swaps) != everyPair {
			t.Fatal("missed", doubled, singles, swaps)
		}
		for _, pairs := range [][][]int{doubled, singles, swaps} {
			holdApart(t, pairs)
			for i := range pairs[:cap(pairs)] {
				pairs[:cap(pairs)][i] = nil
			}
		}
	}
}

// holdApart holds that writing into one pair, and behind it, changes none of the others.
func holdApart(t *testing.T, pairs [][]int) {
	t.Helper()
	for i, pair := range pairs {
		before := slices.Concat(pairs[i+1:]...)
		for j := range pair[:cap(pair)] {
			pair[:cap(pair)][j] = -1
		}
		if after := slices.Concat(pairs[i+1:]...); !slices.Equal(before, after) {
			t.Errorf("pairs behind %d became %v from %v", i, after, before)
		}
	}
}
