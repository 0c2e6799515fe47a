package tests

import (
	"math/rand"
	"slices"
	"strings"
	"testing"

	"loop.example/g01350/impl"
)

// restsOf counts the digits, as many as weights, that leave each rest.
func restsOf(mod int, weights []int) [impl.MaxMod]int {
	var rests [impl.MaxMod]int
	s := schemeOf(mod, weights...)
	for _, digits := range wordsOf(walkDigits, len(weights)) {
		rests[restByHand(mod, sumByHand(s, digits+"0"))]++
	}
	return rests
}

// countByHand lists the digits of each half of the weights.
func countByHand(s impl.Scheme) int {
	half := len(s.Weights) / 2
	front, back := restsOf(s.Mod, s.Weights[:half]), restsOf(s.Mod, s.Weights[half:])
	count := 0
	for a, inFront := range front {
		for b, behind := range back {
			for check := range checks {
				if (a+b+check)%s.Mod == 0 {
					count += inFront * behind
				}
			}
		}
	}
	return count
}

func holdCountRight(t *testing.T, s impl.Scheme, want int) {
	t.Helper()
	if got, ok := impl.CountRight(s); got != want || !ok {
		t.Errorf("CountRight %v: %d %v, not %d", s, got, ok, want)
	}
}

func TestCountRightListed(t *testing.T) {
	for mod := 2; mod <= impl.MaxMod; mod++ {
		for _, s := range schemesWith(mod, 1) {
			holdCountRight(t, s, len(rightNumbers(s)))
		}
	}
	random := rand.New(rand.NewSource(76))
	for range 60 {
		s := randomScheme(random, 2)
		holdCountRight(t, s, len(rightNumbers(s)))
	}
	for range 6 {
		s := randomScheme(random, 3)
		holdCountRight(t, s, len(rightNumbers(s)))
	}
}

func TestCountRightByHalves(t *testing.T) {
	random := rand.New(rand.NewSource(77))
	for _, s := range append(smallSchemes(), longSchemes(random, 3)[:24]...) {
		holdCountRight(t, s, countByHand(s))
	}
	for _, s := range []impl.Scheme{
		schemeOf(13, 1, 2, 3, 4, 5, 6, 7, 8, 9, 10, 11, 12), schemeOf(12, 11, 0, 6, 4, 3, 9, 1, 2), schemeOf(2, 1, 1, 1, 1, 1, 1, 1, 1, 1), schemeOf(7, 3, 3, 3, 0, 0, 6, 5, 4),
	} {
		holdCountRight(t, s, countByHand(s))
	}
}

func TestCountRightByHand(t *testing.T) {
	const million = 1000000
	for _, c := range []struct {
		s     impl.Scheme
		count int
	}{
		// By 11 all digits have just one check.
		{schemeOf(11, 0), 10}, {schemeOf(11, 10), 10}, {sameWeights(11, 1, 12), million * million}, {schemeOf(11, 10, 9, 8, 7, 6, 5, 4, 3, 2), 1000 * million},
		// By 10 those that leave nothing have 0 and X.
		{schemeOf(10, 1), 11}, {schemeOf(10, 0), 20}, {sameWeights(10, 3, 12), million*million + million*million/10}, {sameWeights(10, 0, 12), 2 * million * million},
		// By 2 all have five checks, or six if they leave nothing.
		{schemeOf(2, 1), 55}, {schemeOf(2, 0), 60}, {sameWeights(2, 0, 12), 6 * million * million}, {sameWeights(2, 1, 12), 11 * million * million / 2},
		// By 12 and 13 some have none.
		{schemeOf(12, 1), 9}, {schemeOf(12, 11), 10}, {schemeOf(12, 0), 10}, {schemeOf(13, 1), 8}, {schemeOf(13, 12), 10}, {sameWeights(13, 0, 12), million * million}, {sameWeights(12, 0, 12), million * million}, {schemeOf(13, 1, 0, 0, 0, 0, 0, 0, 0, 0, 0, 0, 0), 8 * million * million / 10},
		{schemeOf(12, 6), 10}, {schemeOf(13, 0, 1), 80},
	} {
		holdCountRight(t, c.s, c.count)
	}
}

// TestCountRightGoesOn holds counts against each other: what is in front of a weight of 0 does not matter to it.
func TestCountRightGoesOn(t *testing.T) {
	random := rand.New(rand.NewSource(78))
	for _, s := range longSchemes(random, 20) {
		if len(s.Weights) == impl.MaxDigits {
			continue
		}
		count, _ := impl.CountRight(s)
		holdCountRight(t, schemeOf(s.Mod, append(slices.Clone(s.Weights), 0)...), 10*count)
		holdCountRight(t, schemeOf(s.Mod, append([]int{0}, s.Weights...)...), 10*count)
		backwards := slices.Clone(s.Weights)
		slices.Reverse(backwards)
		holdCountRight(t, schemeOf(s.Mod, backwards...), count)
	}
}

// holdAllNext goes through all numbers backwards, so that the right number behind each is known.
func holdAllNext(t *testing.T, s impl.Scheme) {
	t.Helper()
	next := ""
	for _, number := range slices.Backward(numbersWith(len(s.Weights))) {
		if got, ok := impl.NextRight(s, number); got != next || ok != (next != "") {
			t.Errorf("NextRight %v, %s: %s %v, not %s", s, number, got, ok, next)
		}
		if isRightByHand(s, number) {
			next = number
		}
	}
}

func TestNextRightOfAll(t *testing.T) {
	for mod := 2; mod <= impl.MaxMod; mod++ {
		for _, weight := range []int{0, 1, mod / 2, mod - 1} {
			holdAllNext(t, schemeOf(mod, weight))
		}
	}
	for _, s := range []impl.Scheme{schemeOf(11, 3, 2), schemeOf(10, 5, 1), schemeOf(13, 12, 0), schemeOf(13, 1, 1), schemeOf(12, 6, 6), schemeOf(2, 1, 0), schemeOf(12, 1, 0)} {
		holdAllNext(t, s)
	}
}

// following returns the number behind another one.
func following(number string) string {
	signs := []byte(number)
	last := len(signs) - 1
	if signs[last] != 'X' {
		signs[last] = checks[strings.IndexByte(checks, signs[last])+1]
		return string(signs)
	}
	signs[last] = '0'
	for place := last - 1; place >= 0; place-- {
		if signs[place] != '9' {
			signs[place]++
			return string(signs)
		}
		signs[place] = '0'
	}
	return ""
}

// nextByHand looks at one number behind the other.
func nextByHand(s impl.Scheme, number string) string {
	for {
		number = following(number)
		if number == "" || isRightByHand(s, number) {
			return number
		}
	}
}

// TestNextRightOfLong has no scheme in which right numbers are far apart.
func TestNextRightOfLong(t *testing.T) {
	random := rand.New(rand.NewSource(79))
	for _, s := range longSchemes(random, 40) {
		if s.Mod > 11 {
			s = schemeOf(11, s.Weights...)
			for place := range s.Weights {
				s.Weights[place] %= 11
			}
		}
		number := randomNumber(random, s)
		if random.Intn(3) == 0 {
			// Many digits change together.
			nines := 1 + random.Intn(len(s.Weights))
			number = number[:len(s.Weights)-nines] + sameText("9", nines) + "X"
		}
		for range 5 {
			want := nextByHand(s, number)
			got, ok := impl.NextRight(s, number)
			if got != want || ok != (want != "") {
				t.Errorf("NextRight %v, %s: %s %v, not %s", s, number, got, ok, want)
			}
			if want == "" {
				break
			}
			number = want
		}
	}
}

func TestNextRightByHand(t *testing.T) {
	for _, c := range []struct {
		s            impl.Scheme
		number, next string
	}{
		// Behind a right number, and a wrong one.
		{schemeOf(11, 3, 2), "175", "183"}, {schemeOf(11, 3, 2), "174", "175"}, {schemeOf(11, 3, 2), "176", "183"}, {schemeOf(11, 3, 2), "17X", "183"}, {schemeOf(11, 3, 2), "000", "019"}, {schemeOf(11, 3, 2), "399", "40X"}, {schemeOf(11, 3, 2), "409", "40X"}, {schemeOf(11, 3, 2), "40X", "418"},
		// The last one, and those behind it.
		{schemeOf(11, 3, 2), "999", "99X"}, {schemeOf(11, 3, 2), "998", "99X"}, {schemeOf(11, 3, 2), "99X", ""}, {schemeOf(2, 0), "9X", ""}, {schemeOf(2, 0), "99", "9X"}, {schemeOf(2, 0), "98", "9X"}, {schemeOf(2, 1), "99", ""}, {schemeOf(2, 1), "9X", ""}, {schemeOf(13, 1), "94", ""}, {schemeOf(13, 1), "93", "94"}, {schemeOf(13, 0), "90", ""},
		{schemeOf(2, 1), "8X", "91"}, {schemeOf(10, 1), "00", "0X"}, {schemeOf(10, 1), "0X", "19"}, {schemeOf(10, 0), "0X", "10"},
		// Digits without a check are passed over.
		{schemeOf(13, 1), "00", "3X"}, {schemeOf(13, 1), "1X", "3X"}, {schemeOf(13, 1), "3X", "49"}, {schemeOf(12, 1), "00", "2X"}, {schemeOf(12, 1), "2X", "39"},
		{schemeOf(13, 1, 0, 0, 0, 0, 0, 0, 0, 0, 0, 0, 0), "0999999999990", "300000000000X"}, {schemeOf(13, 1, 0, 0, 0, 0, 0, 0, 0, 0, 0, 0, 0), "1234567890123", "300000000000X"}, {schemeOf(12, 1, 0, 0, 0, 0, 0, 0, 0, 0, 0, 0, 0), "0999999999990", "200000000000X"},
		{schemeOf(13, 1, 0, 0, 0, 0, 0, 0, 0, 0, 0, 0, 0), "300000000000X", "300000000001X"}, {schemeOf(13, 1, 0, 0, 0, 0, 0, 0, 0, 0, 0, 0, 0), "399999999999X", "4000000000009"}, {schemeOf(13, 1, 0, 0, 0, 0, 0, 0, 0, 0, 0, 0, 0), "9999999999994", ""},
		{schemeOf(13, 12, 0, 0, 0, 0, 0, 0, 0, 0, 0, 0, 0), "899999999999X", "9000000000009"}, {sameWeights(13, 0, 12), "1999999999990", "2000000000000"}, {sameWeights(13, 0, 12), "999999999999X", ""}, {sameWeights(2, 0, 12), "999999999999X", ""}, {sameWeights(2, 0, 12), "9999999999999", "999999999999X"},
		{schemeOf(12, 1, 11, 0, 0, 0, 0, 0, 0, 0, 0, 0, 0), "0199999999991", "0200000000002"}, {schemeOf(12, 0, 0, 0, 0, 0, 0, 0, 0, 0, 0, 1, 1), "000000000000X", "000000000002X"},
	} {
		if got, ok := impl.NextRight(c.s, c.number); got != c.next || ok != (c.next != "") {
			t.Errorf("NextRight %v, %s: %s %v, not %s", c.s, c.number, got, ok, c.next)
		}
	}
}

// TestNextRightCounts follows right numbers from the first to the last one, which are as many as are counted.
func TestNextRightCounts(t *testing.T) {
	for _, s := range []impl.Scheme{schemeOf(13, 5, 8), schemeOf(12, 0, 1), schemeOf(2, 1, 1), schemeOf(11, 10), schemeOf(10, 0), schemeOf(13, 1)} {
		count := 0
		number, ok := sameText("0", len(s.Weights)+1), true
		for ok {
			if is, _ := impl.IsRight(s, number); !is {
				t.Fatalf("NextRight %v: %s is wrong", s, number)
			}
			count++
			number, ok = impl.NextRight(s, number)
		}
		holdCountRight(t, s, count)
	}
}
