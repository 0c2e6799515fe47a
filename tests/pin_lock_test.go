package tests

import (
	"math/rand"
	"slices"
	"strings"
	"testing"

	"loop.example/g01350/impl"
)

// openedLocks are all numbers of digits and of long with at most 300 pins: no such number is just 300, and 256 is the nearest one.
var openedLocks = []struct{ digits, long, pins int }{
	{1, 2, 1}, {2, 2, 4}, {3, 2, 9}, {4, 2, 16}, {5, 2, 25}, {6, 2, 36}, {7, 2, 49}, {8, 2, 64}, {9, 2, 81}, {10, 2, 100},
	{1, 3, 1}, {2, 3, 8}, {3, 3, 27}, {4, 3, 64}, {5, 3, 125}, {6, 3, 216}, {1, 4, 1}, {2, 4, 16}, {3, 4, 81}, {4, 4, 256},
}

// tooManyLocks have more than 300 pins: the nearest number is 343.
var tooManyLocks = []struct{ digits, long int }{{7, 3}, {8, 3}, {9, 3}, {10, 3}, {5, 4}, {6, 4}, {7, 4}, {8, 4}, {9, 4}, {10, 4}}

// sameText has so many times one digit.
func sameText(digit string, digits int) string { return strings.Repeat(digit, digits) }

// wornWith counts the pins of long digits that have just some keys, each at least once.
func wornWith(keys string, long int) int {
	count := 0
	for _, pin := range wordsOf(keys, long) {
		if !slices.ContainsFunc(strings.Split(keys, ""), func(key string) bool { return !strings.Contains(pin, key) }) {
			count++
		}
	}
	return count
}

func TestWornListed(t *testing.T) {
	for _, keys := range choicesOf(walkDigits) {
		if keys == "" {
			continue
		}
		for long := 2; long <= impl.MaxPin; long++ {
			// More than a few keys have no pin in any case.
			want := 0
			if len(keys) <= impl.MaxPin+1 {
				want = wornWith(keys, long)
			}
			if got, ok := impl.CountWorn(keys, long); got != want || !ok {
				t.Errorf("CountWorn %s, %d: %d %v, not %d", keys, long, got, ok, want)
			}
		}
	}
}

func TestWornByHand(t *testing.T) {
	for _, c := range []struct {
		keys        string
		long, count int
	}{
		{"123", 4, 36}, {"0", 2, 1}, {"9", 4, 1}, {"05", 2, 2}, {"05", 3, 6}, {"05", 4, 14}, {"123", 3, 6}, {"1234", 4, 24},
		// More keys than digits.
		{"123", 2, 0}, {"1234", 3, 0}, {"12345", 4, 0}, {walkDigits, 2, 0}, {walkDigits, 4, 0},
	} {
		if got, ok := impl.CountWorn(c.keys, c.long); got != c.count || !ok {
			t.Errorf("CountWorn %s, %d: %d %v", c.keys, c.long, got, ok)
		}
	}
}

// turnsOf turns each wheel step by step to either side until it has its digit.
func turnsOf(a string, b string) int {
	turns := 0
	for i := range len(a) {
		up, down := 0, 0
		for walkDigits[(int(a[i]-'0')+up)%10] != b[i] {
			up++
		}
		for walkDigits[(int(b[i]-'0')+down)%10] != a[i] {
			down++
		}
		turns += min(up, down)
	}
	return turns
}

func holdTurns(t *testing.T, a string, b string) {
	t.Helper()
	if got, ok := impl.WheelTurns(a, b); got != turnsOf(a, b) || !ok {
		t.Errorf("WheelTurns %s, %s: %d %v, not %d", a, b, got, ok, turnsOf(a, b))
	}
}

func TestWheelTurns(t *testing.T) {
	pins := wordsOf(walkDigits, 2)
	for _, a := range pins {
		for _, b := range pins {
			holdTurns(t, a, b)
		}
	}
	random := rand.New(rand.NewSource(64))
	for range 2000 {
		for long := 3; long <= impl.MaxPin; long++ {
			holdTurns(t, randomPin(random, walkDigits, long), randomPin(random, walkDigits, long))
		}
	}
	for _, c := range []struct {
		a, b  string
		turns int
	}{
		{"09", "91", 3}, {"00", "00", 0}, {"00", "55", 10}, {"00", "46", 8}, {"90", "09", 2}, {"1234", "1234", 0}, {"0000", "5555", 20}, {"0123", "9012", 4}, {"019", "928", 3}, {"27", "72", 10}, {"28", "82", 8},
	} {
		if got, ok := impl.WheelTurns(c.a, c.b); got != c.turns || !ok {
			t.Errorf("WheelTurns %s, %s: %d %v", c.a, c.b, got, ok)
		}
	}
}

// TestTurnWheel turns each wheel on by single steps up to the limit, up and down.
func TestTurnWheel(t *testing.T) {
	for _, pin := range []string{"00", "09", "90", "123", "999", "0123", "9876", "5555"} {
		for wheel := range len(pin) {
			for _, side := range []int{1, -1} {
				digit := pin[wheel]
				for steps := range 1001 {
					want := pin[:wheel] + string(digit) + pin[wheel+1:]
					if got, ok := impl.TurnWheel(pin, wheel, side*steps); got != want || !ok {
						t.Errorf("TurnWheel %s, %d, %d: %s %v, not %s", pin, wheel, side*steps, got, ok, want)
					}
					digit = turnedOnce(digit, side)
				}
			}
		}
	}
}

func turnedOnce(digit byte, side int) byte {
	switch {
	case side > 0 && digit == '9':
		return '0'
	case side < 0 && digit == '0':
		return '9'
	}
	return byte(int(digit) + side)
}

func TestTurnWheelByHand(t *testing.T) {
	for _, c := range []struct {
		pin       string
		wheel, by int
		turned    string
	}{
		{"09", 0, 1, "19"}, {"09", 1, 1, "00"}, {"09", 0, -1, "99"}, {"09", 1, -9, "00"}, {"09", 1, -10, "09"}, {"123", 2, 7, "120"}, {"123", 1, -3, "193"},
		{"1234", 3, 1000, "1234"}, {"1234", 0, -1000, "1234"}, {"1234", 3, 999, "1233"}, {"1234", 0, -999, "2234"}, {"55", 0, 0, "55"},
	} {
		if got, ok := impl.TurnWheel(c.pin, c.wheel, c.by); got != c.turned || !ok {
			t.Errorf("TurnWheel %s, %d, %d: %s %v", c.pin, c.wheel, c.by, got, ok)
		}
		// Its own steps are the nearer side if they are at most half a turn.
		if steps := max(c.by, -c.by); steps <= 5 {
			if got, ok := impl.WheelTurns(c.pin, c.turned); got != steps || !ok {
				t.Errorf("WheelTurns %s, %s: %d %v", c.pin, c.turned, got, ok)
			}
		}
	}
}

// opensBehind looks at the last digits behind each one that is typed; it is 0 if they never are the pin.
func opensBehind(text string, pin string) int {
	for typed := range len(text) + 1 {
		if strings.HasSuffix(text[:typed], pin) {
			return typed
		}
	}
	return 0
}

func TestOpensAt(t *testing.T) {
	for _, text := range textsOf("012", 6) {
		for _, pin := range []string{"00", "01", "12", "000", "010", "121", "0000", "0101", "0011", "2222", "09"} {
			want := opensBehind(text, pin)
			if got, ok := impl.OpensAt(text, pin); got != want || ok != (want > 0) {
				t.Errorf("OpensAt %q, %s: %d %v, not %d", text, pin, got, ok, want)
			}
		}
	}
	for _, c := range []struct {
		text, pin string
		at        int
	}{
		{"0012", "01", 3}, {"01", "01", 2}, {"0123", "0123", 4}, {"0012", "12", 4}, {"0012", "21", 0}, {"", "01", 0}, {"0", "00", 0}, {"000", "0000", 0}, {"1110", "110", 4}, {"0101011", "01011", 0},
		// Long texts by which a lock opens at once, at the end and never.
		{sameText("0", impl.MaxLockText), "0000", 4}, {sameText("0", impl.MaxLockText-1) + "7", "07", impl.MaxLockText}, {sameText("0", impl.MaxLockText-1) + "7", "70", 0}, {sameText("0", impl.MaxLockText), "9999", 0},
	} {
		if got, ok := impl.OpensAt(c.text, c.pin); got != c.at || ok != (c.at > 0) {
			t.Errorf("OpensAt %.60q, %s: %d %v, not %d", c.text, c.pin, got, ok, c.at)
		}
	}
}

// firstOpening tries all texts of the least length in order.
func firstOpening(text string, pins []string, seen map[string]bool, digits string, long int) string {
	if len(seen) == len(pins) {
		return text
	}
	for _, digit := range strings.Split(digits, "") {
		more := text + digit
		if len(more) < long {
			if found := firstOpening(more, pins, seen, digits, long); found != "" {
				return found
			}
			continue
		}
		pin := more[len(more)-long:]
		if seen[pin] {
			continue
		}
		seen[pin] = true
		if found := firstOpening(more, pins, seen, digits, long); found != "" {
			return found
		}
		delete(seen, pin)
	}
	return ""
}

// canEnd reports whether a text can go on through all pins that it does not have yet, each once: then these hang together, seen from its last digits.
func canEnd(text string, pins []string, long int) bool {
	reached := map[string]bool{text[len(text)-long+1:]: true}
	left := slices.DeleteFunc(slices.Clone(pins), func(pin string) bool { return strings.Contains(text, pin) })
	for before := -1; before != len(reached); {
		before = len(reached)
		for _, pin := range left {
			if reached[pin[1:]] || reached[pin[:long-1]] {
				reached[pin[1:]], reached[pin[:long-1]] = true, true
			}
		}
	}
	return !slices.ContainsFunc(left, func(pin string) bool { return !reached[pin[1:]] })
}

// openedFirst takes at each place the first digit with a new pin with which the text can go on to its end.
func openedFirst(digits string, long int) string {
	pins := wordsOf(digits, long)
	text := sameText("0", long)
	for len(text) < len(pins)+long-1 {
		for _, digit := range strings.Split(digits, "") {
			more := text + digit
			if !strings.Contains(text, more[len(more)-long:]) && canEnd(more, pins, long) {
				text = more
				break
			}
		}
	}
	return text
}

func TestOpenAllText(t *testing.T) {
	for _, c := range openedLocks {
		digits := walkDigits[:c.digits]
		want := openedFirst(digits, c.long)
		if len(want) != c.pins+c.long-1 {
			t.Errorf("%d digits, pins of %d: %s", c.digits, c.long, want)
		}
		got, ok := impl.OpenAllText(c.digits, c.long)
		if got != want || !ok {
			t.Errorf("OpenAllText %d, %d: %s %v, not %s", c.digits, c.long, got, ok, want)
		}
		for _, pin := range wordsOf(digits, c.long) {
			if _, ok := impl.OpensAt(got, pin); !ok {
				t.Errorf("OpenAllText %d, %d: %s does not open %s", c.digits, c.long, got, pin)
			}
		}
		if c.pins <= 16 {
			if tried := firstOpening("", wordsOf(digits, c.long), map[string]bool{}, digits, c.long); got != tried {
				t.Errorf("OpenAllText %d, %d: %s, not %s", c.digits, c.long, got, tried)
			}
		}
	}
}

func TestOpenAllTextByHand(t *testing.T) {
	for _, c := range []struct {
		digits, long int
		text         string
	}{
		{2, 2, "00110"}, {1, 2, "00"}, {1, 3, "000"}, {1, 4, "0000"}, {2, 3, "0001011100"}, {2, 4, "0000100110101111000"}, {3, 2, "0010211220"},
		{10, 2, "00102030405060708091121314151617181922324252627282933435363738394454647484955657585966768697787988990"},
	} {
		if got, ok := impl.OpenAllText(c.digits, c.long); got != c.text || !ok {
			t.Errorf("OpenAllText %d, %d: %s %v", c.digits, c.long, got, ok)
		}
	}
}

func TestTooManyLocks(t *testing.T) {
	for _, c := range tooManyLocks {
		if got, ok := impl.OpenAllText(c.digits, c.long); got != "" || ok {
			t.Errorf("OpenAllText %d, %d: %s %v", c.digits, c.long, got, ok)
		}
		for _, text := range []string{"", "0123", strings.Repeat(walkDigits, impl.MaxLockText/10)} {
			if got, ok := impl.DoesOpenAll(text, c.digits, c.long); got || ok {
				t.Errorf("DoesOpenAll %.60q, %d, %d: %v %v", text, c.digits, c.long, got, ok)
			}
		}
	}
}

func holdOpensAll(t *testing.T, text string, digits int, long int, want bool) {
	t.Helper()
	if got, ok := impl.DoesOpenAll(text, digits, long); got != want || !ok {
		t.Errorf("DoesOpenAll %s, %d, %d: %v %v", text, digits, long, got, ok)
	}
}

// TestDoesOpenAll changes texts of the least length, which have each pin just once.
func TestDoesOpenAll(t *testing.T) {
	for _, c := range openedLocks {
		text, _ := impl.OpenAllText(c.digits, c.long)
		holdOpensAll(t, text, c.digits, c.long, true)
		holdOpensAll(t, text[1:], c.digits, c.long, false)
		holdOpensAll(t, text[:len(text)-1], c.digits, c.long, false)
		holdOpensAll(t, "", c.digits, c.long, false)
		turned := []byte(text)
		slices.Reverse(turned)
		holdOpensAll(t, string(turned), c.digits, c.long, true)
		// Other digits in front and behind, but none within.
		last := walkDigits[9:]
		holdOpensAll(t, "98"+text+last, c.digits, c.long, true)
		holdOpensAll(t, text+sameText(last, impl.MaxLockText-len(text)), c.digits, c.long, true)
		holdOpensAll(t, sameText(last, impl.MaxLockText-len(text))+text, c.digits, c.long, true)
		if c.digits < 10 {
			for at := 1; at < len(text); at++ {
				holdOpensAll(t, text[:at]+last+text[at:], c.digits, c.long, false)
				holdOpensAll(t, text[:at]+last+text[at+1:], c.digits, c.long, false)
			}
			holdOpensAll(t, text, c.digits+1, 2, false)
		}
		if got, ok := impl.DoesOpenAll(text+sameText(last, impl.MaxLockText-len(text)+1), c.digits, c.long); got || ok {
			t.Errorf("DoesOpenAll of more than %d digits, %d, %d: %v %v", impl.MaxLockText, c.digits, c.long, got, ok)
		}
	}
}

func TestDoesOpenAllByHand(t *testing.T) {
	for _, c := range []struct {
		text         string
		digits, long int
		opens        bool
	}{
		{"00110", 2, 2, true}, {"0011", 2, 2, false}, {"10011", 2, 2, true}, {"01100", 2, 2, true}, {"007110", 2, 2, false}, {"0070110911", 2, 2, true}, {"0070119911", 2, 2, false}, {"9001951108", 2, 2, true}, {"00110", 1, 2, true},
		{"00110", 2, 3, false}, {"9991100199", 1, 2, true}, {"0", 1, 2, false}, {"00", 1, 3, false}, {"7000", 1, 3, true}, {"4", 1, 4, false},
	} {
		holdOpensAll(t, c.text, c.digits, c.long, c.opens)
	}
}
