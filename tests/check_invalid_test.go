package tests

import (
	"math"
	"runtime"
	"slices"
	"strings"
	"testing"

	"loop.example/g01350/impl"
)

// farNumbers are out of all bounds.
var farNumbers = []int{math.MinInt, math.MinInt + 1, -1 << 32, -1000, -2, -1, 14, 15, 100, 1 << 32, 1<<32 + 1, 1<<32 + 11, math.MaxInt - 1, math.MaxInt}

// notSchemes returns schemes that are none, with any numbers.
func notSchemes() []impl.Scheme {
	schemes := []impl.Scheme{{}, {Mod: 11}, {Mod: 11, Weights: []int{}}, {Weights: []int{3, 2}}, {Mod: 2}, {Mod: 13}, schemeOf(0, 0), schemeOf(1, 0), schemeOf(1, 0, 0), schemeOf(0, 3, 2), schemeOf(1, 3, 2), schemeOf(-11, 3, 2), schemeOf(-11, -3, -2), schemeOf(14, 0, 0), schemeOf(14, 13, 1)}
	for _, far := range farNumbers {
		schemes = append(schemes, schemeOf(far, 3, 2), schemeOf(far, 0), schemeOf(far, far-1, far-2), schemeOf(far, far), schemeOf(far))
		schemes = append(schemes, schemeOf(11, far), schemeOf(11, far, 2), schemeOf(11, 3, far), schemeOf(11, far, far), sameWeights(far, 0, impl.MaxDigits), sameWeights(11, far, impl.MaxDigits))
	}
	for mod := 2; mod <= impl.MaxMod; mod++ {
		schemes = append(schemes, schemeOf(mod, mod), schemeOf(mod, 0, mod), schemeOf(mod, mod, 0), schemeOf(mod, mod+1, 1), schemeOf(mod, -1, 1), schemeOf(mod, 1, -1), schemeOf(mod, 1, 1-mod))
		schemes = append(schemes, sameWeights(mod, 0, impl.MaxDigits+1), sameWeights(mod, 1, impl.MaxDigits+1), sameWeights(mod, 1, 1000))
	}
	return schemes
}

// numberCall is a call with a scheme and a text, which tells whether all other results are zero, and the last one.
type numberCall struct {
	name string
	call func(s impl.Scheme, text string) (bool, bool)
}

func textWith(name string, call func(s impl.Scheme, text string) (string, bool)) numberCall {
	return numberCall{name, func(s impl.Scheme, text string) (bool, bool) {
		got, ok := call(s, text)
		return got == "", ok
	}}
}

func listWith(name string, call func(s impl.Scheme, text string) ([]string, bool)) numberCall {
	return numberCall{name, func(s impl.Scheme, text string) (bool, bool) {
		got, ok := call(s, text)
		return got == nil, ok
	}}
}

// withNumber are calls with a number.
var withNumber = []numberCall{
	{"IsRight", func(s impl.Scheme, number string) (bool, bool) {
		is, ok := impl.IsRight(s, number)
		return !is, ok
	}},
	{"SumOfNumber", func(s impl.Scheme, number string) (bool, bool) {
		sum, ok := impl.SumOfNumber(s, number)
		return sum == 0, ok
	}},
	listWith("RepairsOf", impl.RepairsOf),
	listWith("SwapRepairs", impl.SwapRepairs),
	textWith("NextRight", impl.NextRight),
}

// withPlace are calls with a place.
var withPlace = []struct {
	name string
	call func(s impl.Scheme, place int) ([][]int, bool)
}{
	{"MissedSingles", impl.MissedSingles},
	{"MissedSwaps", impl.MissedSwaps},
}

// withScheme are calls with a scheme alone.
var withScheme = []struct {
	name string
	call func(s impl.Scheme) (bool, bool)
}{
	{"FindsAllSingles", func(s impl.Scheme) (bool, bool) {
		finds, ok := impl.FindsAllSingles(s)
		return !finds, ok
	}},
	{"FindsAllSwaps", func(s impl.Scheme) (bool, bool) {
		finds, ok := impl.FindsAllSwaps(s)
		return !finds, ok
	}},
	{"CountRight", func(s impl.Scheme) (bool, bool) {
		count, ok := impl.CountRight(s)
		return count == 0, ok
	}},
	{"SchemeText", func(s impl.Scheme) (bool, bool) {
		text, ok := impl.SchemeText(s)
		return text == "", ok
	}},
}

func TestCheckLimits(t *testing.T) {
	if impl.MaxDigits != 12 || impl.MaxMod != 13 {
		t.Error(impl.MaxDigits, impl.MaxMod)
	}
	for mod := -3; mod <= impl.MaxMod+3; mod++ {
		for weights := range impl.MaxDigits + 3 {
			for weight := -2; weight <= impl.MaxMod+2; weight++ {
				s := sameWeights(mod, 0, weights)
				fine := 2 <= mod && mod <= 13 && 1 <= weights && weights <= 12
				if impl.IsScheme(s) != fine {
					t.Errorf("IsScheme %v: %v", s, !fine)
				}
				if weights == 0 {
					continue
				}
				fine = fine && 0 <= weight && weight < mod
				for _, place := range []int{0, weights / 2, weights - 1} {
					s := sameWeights(mod, 0, weights)
					s.Weights[place] = weight
					if impl.IsScheme(s) != fine {
						t.Errorf("IsScheme %v: %v", s, !fine)
					}
				}
			}
		}
	}
}

func TestNotSchemes(t *testing.T) {
	for _, s := range notSchemes() {
		if impl.IsScheme(s) {
			t.Errorf("IsScheme %v", s)
		}
		for _, f := range withScheme {
			if zero, ok := f.call(s); !zero || ok {
				t.Errorf("%s %v: zero %v, %v", f.name, s, zero, ok)
			}
		}
		for _, f := range withPlace {
			for _, place := range append([]int{0, 1, len(s.Weights) - 1, len(s.Weights)}, farNumbers...) {
				if got, ok := f.call(s, place); got != nil || ok {
					t.Errorf("%s %v, %d: %v %v", f.name, s, place, got, ok)
				}
			}
		}
		for digits := range len(s.Weights) + 2 {
			if digits > 15 {
				break
			}
			holdNoNumber(t, s, sameText("0", digits), sameText("0", digits+1))
			holdNoNumber(t, s, sameText("1", digits), sameText("1", digits)+"X")
		}
		holdNoNumber(t, s, sameText("0", len(s.Weights)), sameText("0", len(s.Weights)+1))
	}
}

// holdNoNumber holds that nothing is told of digits and of a number, if one of them or the scheme is none.
func holdNoNumber(t *testing.T, s impl.Scheme, digits string, number string) {
	t.Helper()
	for _, f := range withNumber {
		if zero, ok := f.call(s, number); !zero || ok {
			t.Errorf("%s %v, %.60q: zero %v, %v", f.name, s, number, zero, ok)
		}
	}
	if got, ok := impl.CheckOf(s, digits); got != "" || ok {
		t.Errorf("CheckOf %v, %.60q: %q %v", s, digits, got, ok)
	}
	if number == "" {
		return
	}
	numbers := []string{number, number[:len(number)-1] + "?"}
	// Elsewhere the first sign itself may be what is wrong.
	if strings.Contains(walkDigits, number[:1]) {
		numbers = append(numbers, "?"+number[1:])
	}
	for _, lost := range numbers {
		if got, ok := impl.LostDigit(s, lost); got != nil || ok {
			t.Errorf("LostDigit %v, %.60q: %q %v", s, lost, got, ok)
		}
	}
}

func TestNotNumbers(t *testing.T) {
	for _, c := range []struct {
		s       impl.Scheme
		numbers []string
	}{
		{schemeOf(11, 3, 2), []string{
			"", "1", "17", "1755", "0175", "17X5", "X75", "1X5", "XXX", "XX0", "17x", "17?", "17*", "17/", "17:", "17W", "17Y", "17 ", " 17", "17\n", "1 5", "-75", "+75", "1,5", "1.5", "a75", "1a5", "17a", "/75", ":75", "1/5", "1:5", "175 ", " 175", "175\n", "175X", "1750", "17X0",
			"17é", "1é", "é7", "é", "１７５", "17１", "１", "\x00\x00\x00", "17\x00", "\x0175", "\xff\xff\xff", "17\xff", "17\xd8", strings.Repeat("1", 100000), strings.Repeat("X", 100000), strings.Repeat("?", 100000),
		}},
		{schemeOf(2, 1), []string{"", "0", "X", "000", "00X", "X0", "XX", "0x", "0?", "0-", "-1", " 0", "0 ", "é", "\x00\x00", "0\n", "a0", "0a"}},
		{sameWeights(13, 0, 12), []string{"000000000000", "00000000000", "00000000000000", "X000000000000", "00000000000X0", "000000X000000", "00000000000 0", "000000000000 ", "000000000000x", "00000000000000X", "00000000000é"}},
	} {
		for _, number := range c.numbers {
			holdNoNumber(t, c.s, notDigits(c.s, number), number)
		}
	}
}

// notDigits returns a text that is no number, or, if it has just the digits of one, a longer one.
func notDigits(s impl.Scheme, text string) string {
	if len(text) == len(s.Weights) {
		return text + "0"
	}
	return text
}

func TestNotDigits(t *testing.T) {
	for _, c := range []struct {
		s      impl.Scheme
		digits []string
	}{
		{schemeOf(11, 3, 2), []string{"", "1", "175", "0017", "1X", "X1", "XX", "x1", "1?", "??", "1 ", " 1", "1\n", "-1", "+1", "1,", "/1", ":1", "1/", "1:", "a1", "1a", "é", "１", "\x00\x00", "\xff\xff", strings.Repeat("1", 100000)}},
		{schemeOf(2, 1), []string{"", "00", "X", "?", " ", "-", "a", "/", ":", "é", "\x00", "\xff", "10"}},
		{sameWeights(13, 0, 12), []string{"00000000000", "0000000000000", "00000000000X", "00000000000 ", " 00000000000", "00000000000?", "0000000000é"}},
	} {
		for _, digits := range c.digits {
			if got, ok := impl.CheckOf(c.s, digits); got != "" || ok {
				t.Errorf("CheckOf %v, %.60q: %q %v", c.s, digits, got, ok)
			}
		}
	}
}

func TestNotPlaces(t *testing.T) {
	for weights := 1; weights <= impl.MaxDigits; weights++ {
		s := sameWeights(11, 0, weights)
		for place := range weights {
			if got, ok := impl.MissedSingles(s, place); len(got) != 45 || !ok {
				t.Errorf("MissedSingles %v, %d: %v %v", s, place, got, ok)
			}
			if got, ok := impl.MissedSwaps(s, place); (len(got) == 45) != (place < weights-1) || ok != (place < weights-1) {
				t.Errorf("MissedSwaps %v, %d: %v %v", s, place, got, ok)
			}
		}
		for _, place := range append([]int{weights, weights + 1}, farNumbers...) {
			for _, f := range withPlace {
				if got, ok := f.call(s, place); got != nil || ok {
					t.Errorf("%s %v, %d: %v %v", f.name, s, place, got, ok)
				}
			}
		}
	}
}

// notDoubled are no digits at all.
var notDoubled = []string{
	"", " ", "X", "1X", "X1", "0X", "a", "1a", "a1", "1 ", " 1", "12 ", " 12", "1 2", "12\n", "-1", "-12", "+12", "1,2", "1.2", "/0", "9:", "0/", ":9", "?", "1?", "é", "1é", "１２", "\x00\x00", "12\x00", "\xff\xff",
	"0000000000000", "0000000000000000", strings.Repeat("0", 100000), "00000000000X", "0000000000é",
}

func TestNotDoubled(t *testing.T) {
	numbers := []brokenCall{callNumbers("DoubledSum", impl.DoubledSum), callBools("IsDoubledRight", impl.IsDoubledRight)}
	digits := []brokenCall{callTexts("DoubledCheck", impl.DoubledCheck)}
	holdInvalid(t, numbers, notDoubled)
	holdInvalid(t, numbers, splitDigits())
	holdInvalid(t, digits, notDoubled)
	holdInvalid(t, digits, []string{"000000000000", "123456789012", "999999999999"})
	for long := range 20 {
		text := sameText("0", long)
		for _, f := range numbers {
			if _, ok := f.call(text); ok != (2 <= long && long <= 12) {
				t.Errorf("%s of %s: %v", f.name, text, ok)
			}
		}
		if _, ok := impl.DoubledCheck(text); ok != (1 <= long && long <= 11) {
			t.Errorf("DoubledCheck of %s: %v", text, ok)
		}
	}
}

// TestWeightsStay gives weights that have room behind them, and then holds weights and room against what they were.
func TestWeightsStay(t *testing.T) {
	for _, s := range []impl.Scheme{schemeOf(11, 3, 2), schemeOf(13, 1, 0, 0, 0, 12), schemeOf(2, 1), sameWeights(12, 5, 12), schemeOf(11, 3, 12), schemeOf(0, 3, 2), schemeOf(11)} {
		room := append(slices.Clone(s.Weights), 7, -7, 1)
		before := slices.Clone(room)
		given := impl.Scheme{Mod: s.Mod, Weights: room[:len(s.Weights)]}
		impl.IsScheme(given)
		for _, f := range withScheme {
			f.call(given)
		}
		for place := range s.Weights {
			for _, f := range withPlace {
				f.call(given, place)
			}
		}
		digits := "918273645501"[:len(s.Weights)]
		impl.CheckOf(given, digits)
		for _, check := range strings.Split(checks, "") {
			for _, f := range withNumber {
				f.call(given, digits+check)
			}
			impl.LostDigit(given, strings.Replace(digits, "9", "?", 1)+check)
		}
		if !slices.Equal(room, before) {
			t.Errorf("%v became %v", before, room)
		}
	}
}

// TestRepairsAreNew writes into results, and into the room behind them: later ones may not change by this.
func TestRepairsAreNew(t *testing.T) {
	s := schemeOf(10, 1, 1, 1)
	for range 2 {
		repairs, _ := impl.RepairsOf(s, "1235")
		swapped, _ := impl.SwapRepairs(s, "1234")
		lost, _ := impl.LostDigit(schemeOf(2, 0), "?0")
		if !slices.Equal(repairs, []string{"0235", "1135", "1225", "1234"}) || !slices.Equal(swapped, []string{"1324", "2134"}) || !slices.Equal(lost, splitDigits()) {
			t.Fatal(repairs, swapped, lost)
		}
		for _, list := range [][]string{repairs, swapped, lost} {
			for i := range list[:cap(list)] {
				list[:cap(list)][i] = "9999"
			}
		}
	}
}

// TestNobodySendsOn holds that nothing goes on behind a call, as values are not all taken if the first one is enough.
func TestNobodySendsOn(t *testing.T) {
	before := runtime.NumGoroutine()
	for range 100 {
		impl.CheckOf(schemeOf(11, 3, 2), "00")
		impl.CheckOf(schemeOf(13, 1), "1")
		impl.RepairsOf(sameWeights(2, 1, 12), "0000000000001")
		impl.LostDigit(schemeOf(11, 3, 2), "?75")
		impl.NextRight(sameWeights(11, 1, 12), "099999999999X")
		impl.NextRight(sameWeights(11, 1, 12), "999999999999X")
	}
	holdNoMoreRun(t, before)
}

// TestRepairsRepeat calls the same again, as no result may depend on who comes first.
func TestRepairsRepeat(t *testing.T) {
	s := schemeOf(13, 12, 3, 1, 0, 5, 6)
	repairs, _ := impl.RepairsOf(s, "123456X")
	next, _ := impl.NextRight(s, "123456X")
	for range 300 {
		if again, ok := impl.RepairsOf(s, "123456X"); !slices.Equal(again, repairs) || !ok {
			t.Errorf("RepairsOf %q, and then %q", repairs, again)
		}
		if again, ok := impl.NextRight(s, "123456X"); again != next || !ok {
			t.Errorf("NextRight %s, and then %s", next, again)
		}
	}
}
