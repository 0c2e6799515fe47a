package tests

import (
	"math/rand"
	"slices"
	"strings"
	"testing"

	"loop.example/g01350/impl"
)

// repairsByHand tries each other sign at each place.
func repairsByHand(s impl.Scheme, number string) []string {
	var repairs []string
	for place := range len(number) {
		signs := walkDigits
		if place == len(s.Weights) {
			signs = checks
		}
		for _, sign := range strings.Split(signs, "") {
			other := number[:place] + sign + number[place+1:]
			if other != number && isRightByHand(s, other) {
				repairs = append(repairs, other)
			}
		}
	}
	slices.Sort(repairs)
	return repairs
}

// swappedByHand exchanges each digit with the next one.
func swappedByHand(s impl.Scheme, number string) []string {
	var repairs []string
	for place := range len(s.Weights) - 1 {
		other := number[:place] + number[place+1:place+2] + number[place:place+1] + number[place+2:]
		if other != number && isRightByHand(s, other) {
			repairs = append(repairs, other)
		}
	}
	slices.Sort(repairs)
	return repairs
}

// placesApart returns at how many places two numbers have other signs.
func placesApart(a string, b string) int {
	apart := 0
	for place := range len(a) {
		if a[place] != b[place] {
			apart++
		}
	}
	return apart
}

func holdRepairs(t *testing.T, s impl.Scheme, number string) {
	t.Helper()
	repairs, ok := impl.RepairsOf(s, number)
	if want := repairsByHand(s, number); !slices.Equal(repairs, want) || !ok {
		t.Errorf("RepairsOf %v, %s: %q %v, not %q", s, number, repairs, ok, want)
	}
	for i, repair := range repairs {
		if is, _ := impl.IsRight(s, repair); !is || placesApart(repair, number) != 1 || i > 0 && repairs[i-1] >= repair {
			t.Errorf("RepairsOf %v, %s: %q", s, number, repairs)
		}
	}
	swapped, ok := impl.SwapRepairs(s, number)
	if want := swappedByHand(s, number); !slices.Equal(swapped, want) || !ok {
		t.Errorf("SwapRepairs %v, %s: %q %v, not %q", s, number, swapped, ok, want)
	}
	for i, repair := range swapped {
		if is, _ := impl.IsRight(s, repair); !is || placesApart(repair, number) != 2 || i > 0 && swapped[i-1] >= repair {
			t.Errorf("SwapRepairs %v, %s: %q", s, number, swapped)
		}
	}
}

func TestRepairs(t *testing.T) {
	random := rand.New(rand.NewSource(74))
	for mod := 2; mod <= impl.MaxMod; mod++ {
		for _, weight := range []int{0, 1, mod / 2, mod - 1} {
			for _, number := range numbersWith(1) {
				holdRepairs(t, schemeOf(mod, weight), number)
			}
		}
	}
	for _, s := range append(smallSchemes(), longSchemes(random, 20)...) {
		number := randomNumber(random, s)
		holdRepairs(t, s, number)
		// Another digit of a right number, and a right number itself.
		if check := checkByHand(s, number[:len(s.Weights)]); check != "" {
			right := number[:len(s.Weights)] + check
			holdRepairs(t, s, right)
			place := random.Intn(len(s.Weights))
			holdRepairs(t, s, right[:place]+randomPin(random, walkDigits, 1)+right[place+1:])
		}
	}
	for _, number := range numbersWith(2) {
		holdRepairs(t, schemeOf(11, 3, 2), number)
		holdRepairs(t, schemeOf(4, 2, 2), number)
	}
}

func TestRepairsByHand(t *testing.T) {
	for _, c := range []struct {
		s       impl.Scheme
		number  string
		repairs string
	}{
		{schemeOf(11, 3, 2), "174", "124 175 574"},
		// Right numbers: by Mod 11 no other one is so near.
		{schemeOf(11, 3, 2), "175", ""}, {schemeOf(11, 3, 2), "40X", ""}, {schemeOf(10, 1), "00", "0X"}, {schemeOf(10, 1), "0X", "00"}, {schemeOf(2, 1), "00", "02 04 06 08 0X 20 40 60 80"}, {schemeOf(11, 0), "30", "00 10 20 40 50 60 70 80 90"},
		{schemeOf(13, 0), "90", "00 10 20 30 40 50 60 70 80"},
		// The check alone.
		{schemeOf(11, 0, 0), "121", "120"}, {schemeOf(13, 0), "7X", "70"}, {schemeOf(5, 0), "71", "70 75 7X"}, {schemeOf(2, 0), "71", "70 72 74 76 78 7X"}, {schemeOf(2, 0), "7X", "0X 1X 2X 3X 4X 5X 6X 70 72 74 76 78 8X 9X"},
		// A check of X may be told for Mods up to 10, and the digits alone be wrong.
		{schemeOf(11, 1), "0X", "00 1X"}, {schemeOf(10, 1), "1X", "0X 19"}, {schemeOf(3, 1), "0X", "00 03 06 09 2X 5X 8X"},
		// No check and no digit helps.
		{schemeOf(13, 1), "11", ""}, {schemeOf(13, 1), "12", ""}, {schemeOf(13, 1), "23", ""}, {schemeOf(12, 1), "11", ""}, {schemeOf(12, 1), "12", ""}, {schemeOf(13, 1), "3X", ""}, {schemeOf(13, 1, 0), "202", ""},
		{schemeOf(12, 1), "10", "00"}, {schemeOf(13, 1), "14", "94"},
	} {
		if got, ok := impl.RepairsOf(c.s, c.number); !slices.Equal(got, strings.Fields(c.repairs)) || !ok {
			t.Errorf("RepairsOf %v, %s: %q %v, not %s", c.s, c.number, got, ok, c.repairs)
		}
	}
}

// TestManyRepairs holds the numbers with the most repairs: where each digit may be any other one, and where each may be five other ones.
func TestManyRepairs(t *testing.T) {
	for _, c := range []struct {
		s      impl.Scheme
		number string
		count  int
	}{
		{sameWeights(2, 0, 12), "1234567890120", 12*9 + 5}, {sameWeights(2, 0, 12), "123456789012X", 12*9 + 5}, {sameWeights(2, 0, 12), "9999999999991", 6}, {sameWeights(13, 0, 12), "1234567890120", 12 * 9},
		{sameWeights(2, 1, 12), "0000000000001", 12*5 + 6}, {sameWeights(2, 1, 12), "999999999999X", 12*4 + 5}, {sameWeights(3, 1, 12), "9999999999990", 12*3 + 3}, {sameWeights(13, 12, 12), "9999999999990", 1 + 12},
	} {
		got, ok := impl.RepairsOf(c.s, c.number)
		if len(got) != c.count || !ok {
			t.Errorf("RepairsOf %v, %s: %d of them, %v", c.s, c.number, len(got), ok)
		}
		holdRepairs(t, c.s, c.number)
	}
}

func TestSwapRepairsByHand(t *testing.T) {
	for _, c := range []struct {
		s       impl.Scheme
		number  string
		repairs string
	}{
		{schemeOf(11, 3, 2), "715", "175"}, {schemeOf(11, 3, 2), "175", ""}, {schemeOf(11, 3, 2), "174", ""},
		// Equal digits, in right numbers and in wrong ones.
		{schemeOf(10, 1, 1), "118", ""}, {schemeOf(10, 1, 1), "117", ""}, {schemeOf(2, 0, 0), "770", ""}, {sameWeights(2, 0, 12), "7777777777770", ""},
		// Right numbers that stay right, in order, whichever digits are exchanged first.
		{schemeOf(10, 1, 1), "127", "217"}, {schemeOf(10, 1, 1, 1), "1234", "1324 2134"}, {schemeOf(10, 1, 1, 1), "3214", "2314 3124"}, {schemeOf(10, 1, 1, 1), "1324", "1234 3124"}, {schemeOf(10, 1, 1, 1), "1235", ""}, {schemeOf(10, 1, 1, 1), "1128", ""},
		{schemeOf(10, 1, 1, 1), "1126", "1216"}, {schemeOf(2, 0, 0, 0), "988X", "898X"},
		// The check has no weight, and is not exchanged.
		{schemeOf(11, 1, 1), "290", "920"}, {schemeOf(2, 1), "01", ""}, {schemeOf(2, 1), "02", ""}, {schemeOf(2, 1, 0), "010", ""}, {schemeOf(2, 1, 0), "100", "010"}, {schemeOf(11, 2, 1), "103", ""}, {schemeOf(11, 2, 0), "139", ""},
		{schemeOf(11, 2, 0), "319", "139"}, {schemeOf(11, 10, 9, 8, 7, 6, 5, 4, 3, 2), "0360406152", "0306406152"},
		{sameWeights(11, 1, 12), "010000000000X", "001000000000X 100000000000X"},
	} {
		want := strings.Fields(c.repairs)
		slices.Sort(want)
		if got, ok := impl.SwapRepairs(c.s, c.number); !slices.Equal(got, want) || !ok {
			t.Errorf("SwapRepairs %v, %s: %q %v, not %s", c.s, c.number, got, ok, c.repairs)
		}
	}
}

// lostByHand tries each digit.
func lostByHand(s impl.Scheme, number string) []string {
	return slices.DeleteFunc(splitDigits(), func(digit string) bool { return !isRightByHand(s, strings.Replace(number, "?", digit, 1)) })
}

func holdLost(t *testing.T, s impl.Scheme, number string) {
	t.Helper()
	if got, ok := impl.LostDigit(s, number); !slices.Equal(got, lostByHand(s, number)) || !ok {
		t.Errorf("LostDigit %v, %s: %q %v, not %q", s, number, got, ok, lostByHand(s, number))
	}
}

func TestLostDigit(t *testing.T) {
	random := rand.New(rand.NewSource(75))
	for mod := 2; mod <= impl.MaxMod; mod++ {
		for _, s := range schemesWith(mod, 1) {
			for _, check := range strings.Split(checks, "") {
				holdLost(t, s, "?"+check)
			}
		}
	}
	for _, s := range append(smallSchemes(), longSchemes(random, 20)...) {
		number := randomNumber(random, s)
		for place := range s.Weights {
			holdLost(t, s, number[:place]+"?"+number[place+1:])
		}
	}
}

func TestLostDigitByHand(t *testing.T) {
	for _, c := range []struct {
		s      impl.Scheme
		number string
		digits string
	}{
		{schemeOf(11, 3, 2), "?75", "1"}, {schemeOf(11, 3, 2), "1?5", "7"}, {schemeOf(11, 3, 2), "?0X", "4"}, {schemeOf(10, 5, 1), "?50", "1 3 5 7 9"}, {schemeOf(10, 5, 1), "?5X", "1 3 5 7 9"}, {schemeOf(10, 5, 1), "?51", ""}, {schemeOf(10, 5, 1), "5?0", "5"}, {schemeOf(10, 5, 1), "4?X", "0"},
		{schemeOf(11, 0), "?0", "0 1 2 3 4 5 6 7 8 9"}, {schemeOf(11, 0), "?1", ""}, {schemeOf(2, 1), "?0", "0 2 4 6 8"}, {schemeOf(2, 1), "?9", "1 3 5 7 9"}, {schemeOf(13, 12), "?9", "9"}, {schemeOf(13, 12), "?X", ""}, {schemeOf(13, 1), "?3", ""}, {schemeOf(13, 1), "?4", "9"},
		{schemeOf(9, 1), "?0", "0 9"}, {schemeOf(9, 8), "?0", "0 9"}, {schemeOf(12, 1, 0), "0?1", ""},
		{sameWeights(2, 0, 12), "123456?89012X", "0 1 2 3 4 5 6 7 8 9"}, {sameWeights(11, 1, 12), "?00000000000X", "1"}, {sameWeights(11, 1, 12), "00000000000?X", "1"}, {schemeOf(11, 10, 9, 8, 7, 6, 5, 4, 3, 2), "09752298?X", "0"},
	} {
		if got, ok := impl.LostDigit(c.s, c.number); !slices.Equal(got, strings.Fields(c.digits)) || !ok {
			t.Errorf("LostDigit %v, %s: %q %v, not %s", c.s, c.number, got, ok, c.digits)
		}
	}
}

// TestLostNumbers gives numbers of which nothing is lost, or two digits, or the check.
func TestLostNumbers(t *testing.T) {
	for _, c := range []struct {
		s       impl.Scheme
		numbers string
	}{
		{schemeOf(11, 3, 2), "175 174 ??5 17? ?7? 1?? ??? ? ?? ?7 ?755 1?75 1?X5 X?5 ?X5 ?7x ?7? a?5 ?a5 ?-5 17 1755 17?5 175? ?175"},
		{schemeOf(2, 1), "10 ?? 1? ? ?00 ?? ?? ?x 0? 00 X? ?é ?"},
		{sameWeights(13, 0, 12), "?000000000000? 000000000000? ?00000000000? ?0000000000?0 ??00000000000 0000000000000 ?00000000000 ?0000000000000 ???????????? ?????????????"},
	} {
		for _, number := range strings.Fields(c.numbers) {
			if got, ok := impl.LostDigit(c.s, number); got != nil || ok {
				t.Errorf("LostDigit %v, %s: %q %v", c.s, number, got, ok)
			}
		}
	}
}
