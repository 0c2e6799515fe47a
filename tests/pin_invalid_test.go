package tests

import (
	"math"
	"slices"
	"strings"
	"testing"

	"loop.example/g01350/impl"
)

// notPins are texts of every kind that are no pins.
var notPins = []string{
	"", "0", "9", " ", "12345", "00000", "0123456789", "a", "ab", "1a", "a1", "1 ", " 1", "12 ", " 12", "1 2", "12\n", "-1", "+12", "1,2", "*#", "0*", "X1", "/0", "9:", "１２", "é", "1é",
	"\x00\x00", "12\x00", "\xff\xff", strings.Repeat("1", 100000),
}

// notLockTexts are no texts of at most MaxLockText digits.
var notLockTexts = []string{
	" ", "a", "01a", "01 ", " 01", "0-1", "01\n", "*", "/", ":", "é", "０１", "\x00", "\xff", "0110x", sameText("0", impl.MaxLockText+1), sameText("0", impl.MaxLockText-1) + " ", sameText("0", impl.MaxLockText-1) + "é",
	sameText("é", impl.MaxLockText/2), sameText("01", impl.MaxLockText), sameText("0", 1000000),
}

// notWorn are no strictly increasing texts of 1..10 digits.
var notWorn = []string{
	"", " ", "00", "11", "10", "21", "122", "132", "0123456798", "01234567899", "00123456789", "9876543210", "a", "ab", "1a", "12 ", " 12", "1 2", "-1", "1,2", "*", "09:", "/0", "é", "１２", "\x00", "\xff",
	strings.Repeat("0", 10), strings.Repeat("0123456789", 10000),
}

// withPattern are calls with a pattern.
var withPattern = []brokenCall{
	callBools("IsDrawn", impl.IsDrawn),
	callTexts("NextPoints", impl.NextPoints),
	callTexts("MirrorDrawn", impl.MirrorDrawn),
}

// withPoint are calls with a single point.
var withPoint = []brokenCall{
	callNumbers("CountDrawn of 1", func(start string) (int, bool) { return impl.CountDrawn(start, 1) }),
	callNumbers("CountDrawn of 4", func(start string) (int, bool) { return impl.CountDrawn(start, 4) }),
	callTexts("FirstDrawn of 1", func(start string) (string, bool) { return impl.FirstDrawn(start, 1) }),
	callTexts("FirstDrawn of all", func(start string) (string, bool) { return impl.FirstDrawn(start, impl.MaxPattern) }),
}

func callHits(name string, call func(text string) (int, int, bool)) brokenCall {
	return brokenCall{name, func(text string) (bool, bool) {
		hits, near, ok := call(text)
		return hits == 0 && near == 0, ok
	}}
}

// withPin are calls with a pin of two digits, once for each of their arguments that is one.
var withPin = []brokenCall{
	callHits("HitsOf of", func(pin string) (int, int, bool) { return impl.HitsOf(pin, "12") }),
	callHits("HitsOf for", func(pin string) (int, int, bool) { return impl.HitsOf("12", pin) }),
	callNumbers("WheelTurns from", func(pin string) (int, bool) { return impl.WheelTurns(pin, "12") }),
	callNumbers("WheelTurns to", func(pin string) (int, bool) { return impl.WheelTurns("12", pin) }),
	callNumbers("WorstLeft", func(pin string) (int, bool) { return impl.WorstLeft([]impl.Guess{guessed("12", 0, 0)}, pin) }),
	callNumbers("WorstLeft of none", func(pin string) (int, bool) { return impl.WorstLeft([]impl.Guess{guessed("12", 1, 1)}, pin) }),
}

// withAnyPin are calls with one pin of any number of digits.
var withAnyPin = []brokenCall{
	callHits("HitsOf itself", func(pin string) (int, int, bool) { return impl.HitsOf(pin, pin) }),
	callNumbers("WheelTurns itself", func(pin string) (int, bool) { return impl.WheelTurns(pin, pin) }),
	callTexts("TurnWheel", func(pin string) (string, bool) { return impl.TurnWheel(pin, 0, 1) }),
	callNumbers("OpensAt", func(pin string) (int, bool) { return impl.OpensAt("01234567890000", pin) }),
	callLists("PinsLeft", func(pin string) ([]string, bool) { return impl.PinsLeft([]impl.Guess{guessed(pin, len(pin), 0)}) }),
	callNumbers("CountPinsLeft", func(pin string) (int, bool) { return impl.CountPinsLeft([]impl.Guess{guessed(pin, 0, 0)}) }),
	callNumbers("WorstLeft itself", func(pin string) (int, bool) { return impl.WorstLeft([]impl.Guess{guessed(pin, 0, 0)}, pin) }),
	callHits("BestGuess", func(pin string) (int, int, bool) {
		best, worst, ok := impl.BestGuess([]impl.Guess{guessed(pin, len(pin), 0)})
		return len(best), worst, ok
	}),
}

// withLockText are calls with a text for locks.
var withLockText = []brokenCall{
	callNumbers("OpensAt", func(text string) (int, bool) { return impl.OpensAt(text, "01") }),
	callNumbers("OpensAt of zeros", func(text string) (int, bool) { return impl.OpensAt(text, "00") }),
	callBools("DoesOpenAll", func(text string) (bool, bool) { return impl.DoesOpenAll(text, 1, 2) }),
	callBools("DoesOpenAll of two", func(text string) (bool, bool) { return impl.DoesOpenAll(text, 2, 2) }),
}

// pinNumber is a call with one number to try, in least..most, which tells whether all other results are zero, and the last one.
type pinNumber struct {
	name        string
	least, most int
	call        func(number int) (bool, bool)
}

func numberFor(name string, least int, most int, call func(number int) (int, bool)) pinNumber {
	return pinNumber{name, least, most, func(number int) (bool, bool) {
		got, ok := call(number)
		return got == 0, ok
	}}
}

func textFor(name string, least int, most int, call func(number int) (string, bool)) pinNumber {
	return pinNumber{name, least, most, func(number int) (bool, bool) {
		got, ok := call(number)
		return got == "", ok
	}}
}

func boolFor(name string, least int, most int, call func(number int) (bool, bool)) pinNumber {
	return pinNumber{name, least, most, func(number int) (bool, bool) {
		got, ok := call(number)
		return !got, ok
	}}
}

var withPinNumber = []pinNumber{
	numberFor("CountDrawn", 1, impl.MaxPattern, func(long int) (int, bool) { return impl.CountDrawn("5", long) }),
	numberFor("CountAllDrawn", 1, impl.MaxPattern, impl.CountAllDrawn),
	textFor("FirstDrawn", 1, impl.MaxPattern, func(long int) (string, bool) { return impl.FirstDrawn("5", long) }),
	numberFor("CountWorn", 2, impl.MaxPin, func(long int) (int, bool) { return impl.CountWorn("12", long) }),
	textFor("TurnWheel, wheels of 2", 0, 1, func(wheel int) (string, bool) { return impl.TurnWheel("12", wheel, 1) }),
	textFor("TurnWheel, wheels of 4", 0, 3, func(wheel int) (string, bool) { return impl.TurnWheel("1234", wheel, 0) }),
	textFor("TurnWheel, steps", -1000, 1000, func(by int) (string, bool) { return impl.TurnWheel("12", 1, by) }),
	textFor("OpenAllText, digits", 1, 10, func(digits int) (string, bool) { return impl.OpenAllText(digits, 2) }),
	textFor("OpenAllText, long", 2, impl.MaxPin, func(long int) (string, bool) { return impl.OpenAllText(4, long) }),
	textFor("OpenAllText of one digit, long", 2, impl.MaxPin, func(long int) (string, bool) { return impl.OpenAllText(1, long) }),
	boolFor("DoesOpenAll, digits", 1, 10, func(digits int) (bool, bool) { return impl.DoesOpenAll("00110", digits, 2) }),
	boolFor("DoesOpenAll, long", 2, impl.MaxPin, func(long int) (bool, bool) { return impl.DoesOpenAll("0000", 1, long) }),
}

func TestPinLimits(t *testing.T) {
	if impl.MaxPattern != 9 || impl.MaxPin != 4 || impl.MaxGuesses != 10 || impl.MaxLockText != 1300 {
		t.Error(impl.MaxPattern, impl.MaxPin, impl.MaxGuesses, impl.MaxLockText)
	}
}

func TestPinNumbersOutside(t *testing.T) {
	for _, f := range withPinNumber {
		for number := f.least; number <= f.most; number++ {
			if _, ok := f.call(number); !ok {
				t.Errorf("%s of %d fails", f.name, number)
			}
		}
		for _, number := range []int{f.least - 1, f.least - 2, math.MinInt, f.most + 1, f.most + 2, 1 << 20, 1 << 32, 1<<32 + 1, 1<<32 + 2, math.MaxInt} {
			if zero, ok := f.call(number); !zero || ok {
				t.Errorf("%s of %d: zero %v, %v", f.name, number, zero, ok)
			}
		}
	}
}

func TestNotPatterns(t *testing.T) {
	holdInvalid(t, withPattern, notPatterns)
	// No pattern goes on that cannot be drawn itself.
	holdInvalid(t, withPattern[1:2], []string{"13", "19", "135", "246", "1379", "192837465"})
	holdInvalid(t, withPoint, notPoints)
	for _, f := range slices.Concat(withPattern, withPoint) {
		for _, point := range splitPoints() {
			if _, ok := f.call(point); !ok {
				t.Errorf("%s of %s fails", f.name, point)
			}
		}
	}
}

func TestNotPins(t *testing.T) {
	for _, pin := range notPins {
		if impl.IsPin(pin) {
			t.Errorf("IsPin %.60q", pin)
		}
	}
	holdInvalid(t, withPin, notPins)
	holdInvalid(t, withAnyPin, notPins)
	for _, pin := range slices.Concat(wordsOf(walkDigits, 2), wordsOf("059", 3), wordsOf("059", 4)) {
		if !impl.IsPin(pin) {
			t.Errorf("no IsPin %s", pin)
		}
	}
	for _, pin := range []string{"01", "12", "00", "90"} {
		for _, f := range withPin {
			if _, ok := f.call(pin); !ok {
				t.Errorf("%s of %s fails", f.name, pin)
			}
		}
	}
	for _, pin := range []string{"01", "12", "00", "012", "000", "0123", "0000"} {
		for _, f := range withAnyPin {
			if _, ok := f.call(pin); !ok {
				t.Errorf("%s of %s fails", f.name, pin)
			}
		}
	}
}

// TestUnevenPins gives pins of other numbers of digits.
func TestUnevenPins(t *testing.T) {
	holdInvalid(t, withPin, []string{"123", "112", "1234", "0012", "000", "1212"})
	list := []impl.Guess{guessed("123", 0, 3)}
	for _, guess := range []string{"12", "1234", "23", "0123"} {
		if got, ok := impl.WorstLeft(list, guess); got != 0 || ok {
			t.Errorf("WorstLeft %v, %s: %d %v", list, guess, got, ok)
		}
	}
}

func TestNotLockTexts(t *testing.T) {
	holdInvalid(t, withLockText, notLockTexts)
	for _, f := range withLockText {
		for _, text := range []string{"00110", "9900011", sameText("0", impl.MaxLockText-2) + "11", sameText("001", impl.MaxLockText/3)} {
			if _, ok := f.call(text); !ok {
				t.Errorf("%s of %.60q fails", f.name, text)
			}
		}
	}
	for long := 2; long <= impl.MaxPin; long++ {
		for _, keys := range notWorn {
			if got, ok := impl.CountWorn(keys, long); got != 0 || ok {
				t.Errorf("CountWorn %.60q, %d: %d %v", keys, long, got, ok)
			}
		}
	}
}

// holdNoGuesses holds that nothing is told of a list that are no guesses.
func holdNoGuesses(t *testing.T, list []impl.Guess, further string) {
	t.Helper()
	if impl.AreGuesses(list) {
		t.Errorf("AreGuesses %v", list)
	}
	if got, ok := impl.PinsLeft(list); len(got) > 0 || ok {
		t.Errorf("PinsLeft %v: %q %v", list, got, ok)
	}
	if got, ok := impl.CountPinsLeft(list); got != 0 || ok {
		t.Errorf("CountPinsLeft %v: %d %v", list, got, ok)
	}
	if got, ok := impl.WorstLeft(list, further); got != 0 || ok {
		t.Errorf("WorstLeft %v, %s: %d %v", list, further, got, ok)
	}
	if got, worst, ok := impl.BestGuess(list); got != "" || worst != 0 || ok {
		t.Errorf("BestGuess %v: %s %d %v", list, got, worst, ok)
	}
}

func TestNotGuesses(t *testing.T) {
	right := guessed("12", 0, 2)
	for _, wrong := range []impl.Guess{
		{}, guessed("", 0, 0), guessed("1", 0, 1), guessed("1", 1, 0), guessed("12345", 0, 0), guessed("1a", 0, 0), guessed("é", 0, 0), guessed("１２", 1, 1), guessed("1 ", 0, 0), guessed("\xff\xff", 0, 0),
		guessed("12", -1, 0), guessed("12", 0, -1), guessed("12", -1, 1), guessed("12", 1, -1), guessed("12", 3, -1), guessed("12", -1, 3), guessed("12", -2, -2),
		// Hits and Near together more than the digits, or so many that their sum overflows.
		guessed("12", 3, 0), guessed("12", 0, 3), guessed("12", 2, 1), guessed("12", 1, 2), guessed("12", 2, 2), guessed("12", math.MaxInt, 0), guessed("12", 0, math.MaxInt), guessed("12", math.MaxInt, math.MaxInt),
		guessed("12", math.MinInt, math.MinInt), guessed("12", math.MinInt, 0), guessed("12", 1, math.MaxInt), guessed("12", 2, math.MaxInt), guessed("12", math.MaxInt, 3), guessed("12", math.MinInt, math.MaxInt),
		guessed("12", 1<<32, 0), guessed("12", 0, 1<<32), guessed("12", 1<<32+1, 1),
	} {
		holdNoGuesses(t, []impl.Guess{wrong}, "12")
		holdNoGuesses(t, []impl.Guess{wrong}, wrong.Pin)
		holdNoGuesses(t, []impl.Guess{right, wrong}, "12")
		holdNoGuesses(t, []impl.Guess{wrong, right}, "12")
		holdNoGuesses(t, append(slices.Repeat([]impl.Guess{right}, impl.MaxGuesses-1), wrong), "12")
	}
	// A pin of other numbers of digits than the first one's.
	for _, wrong := range []impl.Guess{guessed("123", 0, 2), guessed("1234", 0, 2), guessed("0012", 0, 0)} {
		holdNoGuesses(t, []impl.Guess{right, wrong}, "12")
		holdNoGuesses(t, []impl.Guess{wrong, right}, wrong.Pin)
		holdNoGuesses(t, []impl.Guess{right, right, wrong}, wrong.Pin)
	}
	for _, list := range [][]impl.Guess{nil, {}, slices.Repeat([]impl.Guess{right}, impl.MaxGuesses+1), slices.Repeat([]impl.Guess{right}, 10000), slices.Repeat([]impl.Guess{{}}, impl.MaxGuesses+1)} {
		holdNoGuesses(t, list, "21")
	}
}

func TestAreGuesses(t *testing.T) {
	for _, guess := range []string{"00", "12", "123", "999", "0000", "9876"} {
		for hits := -2; hits <= len(guess)+2; hits++ {
			for near := -2; near <= len(guess)+2; near++ {
				want := hits >= 0 && near >= 0 && hits+near <= len(guess)
				for count := 1; count <= impl.MaxGuesses+1; count++ {
					list := slices.Repeat([]impl.Guess{guessed(guess, hits, near)}, count)
					if got := impl.AreGuesses(list); got != (want && count <= impl.MaxGuesses) {
						t.Errorf("AreGuesses of %d times %v: %v", count, list[0], got)
					}
				}
			}
		}
	}
}
