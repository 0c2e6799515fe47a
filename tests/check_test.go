package tests

import (
	"math/rand"
	"slices"
	"strings"
	"testing"

	"loop.example/g01350/impl"
)

// checks are the signs of all checks, in their order in texts.
const checks = "0123456789X"

func schemeOf(mod int, weights ...int) impl.Scheme {
	return impl.Scheme{Mod: mod, Weights: weights}
}

// sameWeights has one weight at all places.
func sameWeights(mod int, weight int, weights int) impl.Scheme {
	return schemeOf(mod, slices.Repeat([]int{weight}, weights)...)
}

// schemesWith returns all schemes with one Mod and so many weights.
func schemesWith(mod int, weights int) []impl.Scheme {
	schemes := []impl.Scheme{{Mod: mod}}
	for range weights {
		var longer []impl.Scheme
		for _, s := range schemes {
			for weight := range mod {
				longer = append(longer, schemeOf(mod, append(slices.Clone(s.Weights), weight)...))
			}
		}
		schemes = longer
	}
	return schemes
}

// smallSchemes returns all schemes with one weight or two.
func smallSchemes() []impl.Scheme {
	var schemes []impl.Scheme
	for mod := 2; mod <= impl.MaxMod; mod++ {
		schemes = append(schemes, schemesWith(mod, 1)...)
		schemes = append(schemes, schemesWith(mod, 2)...)
	}
	return schemes
}

// randomScheme has often weights of 0, 1 and Mod - 1, and one weight that is at several places.
func randomScheme(random *rand.Rand, weights int) impl.Scheme {
	mod := 2 + random.Intn(impl.MaxMod-1)
	often := []int{0, 1, mod - 1, random.Intn(mod)}
	s := schemeOf(mod)
	for range weights {
		weight := random.Intn(mod)
		if random.Intn(2) == 0 {
			weight = often[random.Intn(len(often))]
		}
		s.Weights = append(s.Weights, weight)
	}
	return s
}

// longSchemes returns some schemes for each number of weights.
func longSchemes(random *rand.Rand, each int) []impl.Scheme {
	var schemes []impl.Scheme
	for weights := 1; weights <= impl.MaxDigits; weights++ {
		for range each {
			schemes = append(schemes, randomScheme(random, weights))
		}
	}
	return schemes
}

// numbersWith returns all numbers of so many weights, in their order as texts.
func numbersWith(weights int) []string {
	var numbers []string
	for _, digits := range wordsOf(walkDigits, weights) {
		for _, check := range strings.Split(checks, "") {
			numbers = append(numbers, digits+check)
		}
	}
	return numbers
}

func randomNumber(random *rand.Rand, s impl.Scheme) string {
	return randomPin(random, walkDigits, len(s.Weights)) + randomPin(random, checks, 1)
}

// sumByHand adds each digit so many times as its weight tells.
func sumByHand(s impl.Scheme, number string) int {
	sum := strings.Index(checks, number[len(s.Weights):])
	for place, weight := range s.Weights {
		for range weight {
			sum += int(number[place] - '0')
		}
	}
	return sum
}

// restByHand takes Mod off a sum as often as it can be.
func restByHand(mod int, sum int) int {
	for sum >= mod {
		sum -= mod
	}
	return sum
}

func isRightByHand(s impl.Scheme, number string) bool {
	return restByHand(s.Mod, sumByHand(s, number)) == 0
}

// rightNumbers returns all right numbers of a scheme with few weights, in their order as texts.
func rightNumbers(s impl.Scheme) []string {
	return slices.DeleteFunc(numbersWith(len(s.Weights)), func(number string) bool { return !isRightByHand(s, number) })
}

func holdSum(t *testing.T, s impl.Scheme, number string) {
	t.Helper()
	sum, ok := impl.SumOfNumber(s, number)
	if sum != sumByHand(s, number) || !ok {
		t.Errorf("SumOfNumber %v, %s: %d %v, not %d", s, number, sum, ok, sumByHand(s, number))
	}
	if is, ok := impl.IsRight(s, number); is != (sum%s.Mod == 0) || is != isRightByHand(s, number) || !ok {
		t.Errorf("IsRight %v, %s: %v %v with the sum %d", s, number, is, ok, sum)
	}
}

func TestSumsOfNumbers(t *testing.T) {
	for mod := 2; mod <= impl.MaxMod; mod++ {
		for _, s := range schemesWith(mod, 1) {
			for _, number := range numbersWith(1) {
				holdSum(t, s, number)
			}
		}
	}
	random := rand.New(rand.NewSource(71))
	for _, s := range append(smallSchemes(), longSchemes(random, 50)...) {
		for range 50 {
			holdSum(t, s, randomNumber(random, s))
		}
	}
	for _, number := range numbersWith(2) {
		holdSum(t, schemeOf(11, 3, 2), number)
		holdSum(t, schemeOf(10, 5, 1), number)
		holdSum(t, schemeOf(13, 0, 12), number)
	}
}

func TestSumsByHand(t *testing.T) {
	for _, c := range []struct {
		s      impl.Scheme
		number string
		sum    int
		right  bool
	}{
		{schemeOf(11, 3, 2), "175", 22, true}, {schemeOf(11, 3, 2), "715", 28, false}, {schemeOf(11, 3, 2), "170", 17, false}, {schemeOf(11, 3, 2), "174", 21, false}, {schemeOf(11, 3, 2), "40X", 22, true},
		{schemeOf(2, 0), "00", 0, true}, {schemeOf(2, 1), "11", 2, true}, {schemeOf(2, 1), "1X", 11, false}, {schemeOf(2, 1), "2X", 12, true}, {schemeOf(2, 0), "9X", 10, true}, {schemeOf(2, 0), "91", 1, false},
		// X counts 10 whatever Mod is, so that 0 and X may do the same.
		{schemeOf(10, 5, 1), "550", 30, true}, {schemeOf(10, 5, 1), "55X", 40, true}, {schemeOf(5, 1), "5X", 15, true}, {schemeOf(9, 1), "8X", 18, true}, {schemeOf(3, 2), "1X", 12, true},
		{schemeOf(13, 12), "99", 117, true}, {schemeOf(13, 12), "9X", 118, false}, {schemeOf(13, 1), "3X", 13, true}, {schemeOf(12, 11), "1X", 21, false}, {schemeOf(12, 11), "11", 12, true},
		{sameWeights(13, 12, 12), "999999999999X", 1306, false}, {sameWeights(13, 12, 12), "9999999999994", 1300, true}, {sameWeights(13, 0, 12), "9999999999990", 0, true},
		{schemeOf(11, 10, 9, 8, 7, 6, 5, 4, 3, 2), "0306406152", 132, true}, {schemeOf(11, 10, 9, 8, 7, 6, 5, 4, 3, 2), "097522980X", 264, true},
		{schemeOf(10, 1, 3, 1, 3, 1, 3, 1, 3, 1, 3, 1, 3), "4006381333931", 90, true}, {schemeOf(10, 1, 3, 1, 3, 1, 3, 1, 3, 1, 3, 1, 3), "4006383133931", 86, false},
	} {
		if sum, ok := impl.SumOfNumber(c.s, c.number); sum != c.sum || !ok {
			t.Errorf("SumOfNumber %v, %s: %d %v", c.s, c.number, sum, ok)
		}
		if is, ok := impl.IsRight(c.s, c.number); is != c.right || !ok {
			t.Errorf("IsRight %v, %s: %v %v", c.s, c.number, is, ok)
		}
	}
}

// checkByHand returns the first check with which digits are right, or "".
func checkByHand(s impl.Scheme, digits string) string {
	for _, check := range strings.Split(checks, "") {
		if isRightByHand(s, digits+check) {
			return check
		}
	}
	return ""
}

func holdCheck(t *testing.T, s impl.Scheme, digits string) {
	t.Helper()
	want := checkByHand(s, digits)
	got, ok := impl.CheckOf(s, digits)
	if got != want || ok != (want != "") {
		t.Errorf("CheckOf %v, %s: %s %v, not %s", s, digits, got, ok, want)
	}
	if is, _ := impl.IsRight(s, digits+got); ok && !is {
		t.Errorf("CheckOf %v, %s: %s is wrong", s, digits, got)
	}
}

func TestCheckOf(t *testing.T) {
	for mod := 2; mod <= impl.MaxMod; mod++ {
		for _, s := range schemesWith(mod, 1) {
			for _, digit := range splitDigits() {
				holdCheck(t, s, digit)
			}
		}
	}
	random := rand.New(rand.NewSource(72))
	for _, s := range append(smallSchemes(), longSchemes(random, 50)...) {
		for range 10 {
			holdCheck(t, s, randomPin(random, walkDigits, len(s.Weights)))
		}
	}
}

func TestCheckByHand(t *testing.T) {
	for _, c := range []struct {
		s             impl.Scheme
		digits, check string
	}{
		{schemeOf(11, 3, 2), "17", "5"}, {schemeOf(11, 3, 2), "00", "0"}, {schemeOf(11, 3, 2), "40", "X"}, {schemeOf(2, 1), "1", "1"}, {schemeOf(2, 1), "8", "0"}, {schemeOf(2, 0), "9", "0"}, {schemeOf(3, 1), "1", "2"},
		// The least check is never X if Mod is 10 at most.
		{schemeOf(10, 1), "0", "0"}, {schemeOf(10, 1), "1", "9"}, {schemeOf(10, 9), "1", "1"},
		// These would be 11 and 12.
		{schemeOf(12, 1), "1", ""}, {schemeOf(13, 1), "1", ""}, {schemeOf(13, 1), "2", ""}, {schemeOf(12, 11), "1", "1"}, {schemeOf(12, 5, 0), "59", ""},
		{schemeOf(12, 1), "2", "X"}, {schemeOf(13, 1), "3", "X"}, {schemeOf(12, 1), "3", "9"}, {schemeOf(13, 1), "4", "9"}, {schemeOf(13, 12), "9", "9"},
		{sameWeights(13, 12, 12), "999999999999", "4"}, {sameWeights(13, 0, 12), "999999999999", "0"}, {sameWeights(2, 1, 12), "100000000000", "1"},
		{schemeOf(11, 10, 9, 8, 7, 6, 5, 4, 3, 2), "030640615", "2"}, {schemeOf(11, 10, 9, 8, 7, 6, 5, 4, 3, 2), "097522980", "X"}, {schemeOf(10, 1, 3, 1, 3, 1, 3, 1, 3, 1, 3, 1, 3), "400638133393", "1"},
	} {
		if got, ok := impl.CheckOf(c.s, c.digits); got != c.check || ok != (c.check != "") {
			t.Errorf("CheckOf %v, %s: %s %v, not %s", c.s, c.digits, got, ok, c.check)
		}
	}
}
