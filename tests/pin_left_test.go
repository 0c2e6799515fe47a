package tests

import (
	"math/rand"
	"runtime"
	"slices"
	"strings"
	"testing"
	"time"

	"loop.example/g01350/impl"
)

// guessed is a guess as a call tells it.
func guessed(pin string, hits int, near int) impl.Guess {
	return impl.Guess{Pin: pin, Hits: hits, Near: near}
}

// hitsByHand crosses out digits of the pin, first those that are right at their places.
func hitsByHand(pin string, guess string) (int, int) {
	left := strings.Split(pin, "")
	hits, near := 0, 0
	for i := range left {
		if left[i] == guess[i:i+1] {
			left[i] = "-"
			hits++
		}
	}
	for i := range guess {
		if pin[i] == guess[i] {
			continue
		}
		if at := slices.Index(left, guess[i:i+1]); at >= 0 {
			left[at] = "-"
			near++
		}
	}
	return hits, near
}

func holdHits(t *testing.T, pin string, guess string) {
	t.Helper()
	wantHits, wantNear := hitsByHand(pin, guess)
	if hits, near, ok := impl.HitsOf(pin, guess); hits != wantHits || near != wantNear || !ok {
		t.Errorf("HitsOf %s, %s: %d %d %v, not %d %d", pin, guess, hits, near, ok, wantHits, wantNear)
	}
}

func TestHitsListed(t *testing.T) {
	for _, pins := range [][]string{wordsOf(walkDigits, 2), wordsOf("01239", 3), wordsOf("0123", 4)} {
		for _, pin := range pins {
			for _, guess := range pins {
				holdHits(t, pin, guess)
			}
		}
	}
	random := rand.New(rand.NewSource(62))
	for range 20000 {
		long := 2 + random.Intn(3)
		holdHits(t, randomPin(random, walkDigits, long), randomPin(random, walkDigits, long))
	}
}

func randomPin(random *rand.Rand, digits string, long int) string {
	pin := ""
	for range long {
		pin += string(digits[random.Intn(len(digits))])
	}
	return pin
}

func TestHitsByHand(t *testing.T) {
	for _, c := range []struct {
		pin, guess string
		hits, near int
	}{
		{"1123", "1314", 1, 2}, {"1314", "1123", 1, 2}, {"12", "12", 2, 0}, {"12", "21", 0, 2}, {"12", "34", 0, 0}, {"00", "00", 2, 0}, {"00", "09", 1, 0}, {"90", "09", 0, 2},
		// A digit of the pin or of the guess that is there more than once.
		{"1122", "2211", 0, 4}, {"1122", "1111", 2, 0}, {"1111", "1122", 2, 0}, {"1222", "2111", 0, 2}, {"1222", "2221", 2, 2}, {"1112", "2221", 0, 2}, {"112", "211", 1, 2}, {"123", "333", 1, 0}, {"331", "133", 1, 2},
		{"0123", "3012", 0, 4}, {"9999", "8999", 3, 0}, {"5055", "0555", 2, 2},
	} {
		if hits, near, ok := impl.HitsOf(c.pin, c.guess); hits != c.hits || near != c.near || !ok {
			t.Errorf("HitsOf %s, %s: %d %d %v", c.pin, c.guess, hits, near, ok)
		}
	}
}

// pinsTelling lists all pins that tell all guesses as they are, in order.
func pinsTelling(list []impl.Guess) []string {
	var pins []string
	for _, pin := range wordsOf(walkDigits, len(list[0].Pin)) {
		if doesTell(pin, list) {
			pins = append(pins, pin)
		}
	}
	return pins
}

func doesTell(pin string, list []impl.Guess) bool {
	for _, guess := range list {
		if hits, near := hitsByHand(pin, guess.Pin); hits != guess.Hits || near != guess.Near {
			return false
		}
	}
	return true
}

func worstFor(pins []string, guess string) int {
	worst := 0
	counts := map[[2]int]int{}
	for _, pin := range pins {
		hits, near := hitsByHand(pin, guess)
		counts[[2]int{hits, near}]++
		worst = max(worst, counts[[2]int{hits, near}])
	}
	return worst
}

// holdLeft holds all that is told of the pins that are left against a list of these.
func holdLeft(t *testing.T, list []impl.Guess, pins []string, further string) {
	t.Helper()
	given := slices.Clone(list)
	if !impl.AreGuesses(list) {
		t.Errorf("AreGuesses %v: false", list)
	}
	if got, ok := impl.CountPinsLeft(list); got != len(pins) || !ok {
		t.Errorf("CountPinsLeft %v: %d %v, not %d", list, got, ok, len(pins))
	}
	want, best, least := pins, "", 0
	if len(pins) > 200 {
		want = nil
	}
	for _, pin := range want {
		if worst := worstFor(pins, pin); best == "" || worst < least {
			best, least = pin, worst
		}
	}
	if got, ok := impl.PinsLeft(list); !slices.Equal(got, want) || ok != (len(pins) <= 200) {
		t.Errorf("PinsLeft %v: %q %v, not %q", list, got, ok, want)
	}
	if got, worst, ok := impl.BestGuess(list); got != best || worst != least || ok != (best != "") {
		t.Errorf("BestGuess %v: %s %d %v, not %s %d", list, got, worst, ok, best, least)
	}
	if got, ok := impl.WorstLeft(list, further); got != worstFor(pins, further) || !ok {
		t.Errorf("WorstLeft %v, %s: %d %v, not %d", list, further, got, ok, worstFor(pins, further))
	}
	if !slices.Equal(list, given) {
		t.Errorf("%v became %v", given, list)
	}
}

// TestPinsLeftOfPins makes guesses at a pin, and then one of them by chance, which may leave none.
func TestPinsLeftOfPins(t *testing.T) {
	random := rand.New(rand.NewSource(63))
	for round := range 240 {
		long := 2 + round%3
		digits := walkDigits[:2+random.Intn(9)]
		pin := randomPin(random, digits, long)
		var list []impl.Guess
		for range 1 + random.Intn(impl.MaxGuesses) {
			guess := randomPin(random, digits, long)
			hits, near := hitsByHand(pin, guess)
			list = append(list, guessed(guess, hits, near))
		}
		further := randomPin(random, walkDigits, long)
		holdLeft(t, list, pinsTelling(list), further)
		at := random.Intn(len(list))
		list[at].Hits = random.Intn(long + 1)
		list[at].Near = random.Intn(long + 1 - list[at].Hits)
		holdLeft(t, list, pinsTelling(list), further)
	}
}

// TestOneGuess holds one guess with all Hits and Near that it may have, also if no pin can tell them.
func TestOneGuess(t *testing.T) {
	for _, guess := range []string{"12", "00", "123", "112", "999", "0123", "1123", "1122", "1112", "7777"} {
		for hits := range len(guess) + 1 {
			for near := range len(guess) + 1 - hits {
				list := []impl.Guess{guessed(guess, hits, near)}
				holdLeft(t, list, pinsTelling(list), "9081"[:len(guess)])
			}
		}
	}
}

// TestLeftTellAll holds what is left against HitsOf: just the pins that are left tell all guesses as they are.
func TestLeftTellAll(t *testing.T) {
	for _, list := range [][]impl.Guess{
		{guessed("12", 0, 2)}, {guessed("45", 1, 0)}, {guessed("123", 1, 1)}, {guessed("112", 0, 1), guessed("345", 1, 1)}, {guessed("0123", 2, 1)}, {guessed("1123", 1, 2), guessed("1314", 0, 2)},
	} {
		left, ok := impl.PinsLeft(list)
		if !ok {
			t.Errorf("PinsLeft %v fails", list)
		}
		for _, pin := range wordsOf(walkDigits, len(list[0].Pin)) {
			tells := true
			for _, guess := range list {
				hits, near, _ := impl.HitsOf(pin, guess.Pin)
				tells = tells && guess == guessed(guess.Pin, hits, near)
			}
			if tells != slices.Contains(left, pin) {
				t.Errorf("PinsLeft %v are %q, but %s tells all: %v", list, left, pin, tells)
			}
		}
	}
}

func TestPinsLeftByHand(t *testing.T) {
	for _, c := range []struct {
		list []impl.Guess
		left string
	}{
		{[]impl.Guess{guessed("12", 0, 2)}, "21"}, {[]impl.Guess{guessed("12", 2, 0)}, "12"}, {[]impl.Guess{guessed("12", 1, 1)}, ""}, {[]impl.Guess{guessed("11", 0, 1)}, ""},
		{[]impl.Guess{guessed("11", 1, 0)}, "01 10 12 13 14 15 16 17 18 19 21 31 41 51 61 71 81 91"}, {[]impl.Guess{guessed("1123", 3, 1)}, ""},
		{[]impl.Guess{guessed("123", 0, 3)}, "231 312"}, {[]impl.Guess{guessed("123", 0, 3), guessed("231", 3, 0)}, "231"}, {[]impl.Guess{guessed("123", 0, 3), guessed("132", 3, 0)}, ""},
		{[]impl.Guess{guessed("0001", 2, 2)}, "0010 0100 1000"}, {[]impl.Guess{guessed("9999", 4, 0)}, "9999"}, {[]impl.Guess{guessed("0000", 4, 0), guessed("0000", 4, 0)}, "0000"},
		{[]impl.Guess{guessed("0000", 4, 0), guessed("0000", 3, 0)}, ""},
		{slices.Repeat([]impl.Guess{guessed("12", 0, 2)}, impl.MaxGuesses), "21"},
	} {
		holdLeft(t, c.list, strings.Fields(c.left), "1010"[:len(c.list[0].Pin)])
	}
}

func TestMostGuesses(t *testing.T) {
	var list []impl.Guess
	for _, guess := range []string{"0000", "1111", "2222", "3333", "4444", "5555", "6666", "7777", "8888"} {
		list = append(list, guessed(guess, strings.Count("0278", guess[:1]), 0))
	}
	holdLeft(t, list, pinsTelling(list), "0278")
	if got, _ := impl.CountPinsLeft(list); got != 24 {
		t.Errorf("CountPinsLeft of %d guesses: %d", len(list), got)
	}
	list = append(list, guessed("0287", 2, 2))
	holdLeft(t, list, pinsTelling(list), "0278")
	more := append(slices.Clone(list), guessed("0278", 4, 0))
	if impl.AreGuesses(more) {
		t.Errorf("AreGuesses of %d", len(more))
	}
	holdNoGuesses(t, more, "0278")
}

// TestManyLeft holds lists by which just 200 pins are left, some less and some more.
func TestManyLeft(t *testing.T) {
	for _, c := range []struct {
		count int
		list  []impl.Guess
	}{
		{200, []impl.Guess{guessed("9266", 0, 2), guessed("7931", 0, 2)}},
		{200, []impl.Guess{guessed("2323", 0, 1), guessed("9511", 1, 1)}},
		{200, []impl.Guess{guessed("6442", 0, 2), guessed("0756", 0, 2)}},
		{199, []impl.Guess{guessed("3000", 1, 1), guessed("1135", 0, 1)}},
		{201, []impl.Guess{guessed("5666", 1, 1), guessed("1858", 0, 1)}},
		{201, []impl.Guess{guessed("6656", 0, 1), guessed("3067", 0, 2)}},
		{6561, []impl.Guess{guessed("0000", 0, 0)}},
		{729, []impl.Guess{guessed("999", 0, 0)}},
		{81, []impl.Guess{guessed("99", 0, 0)}},
	} {
		pins := pinsTelling(c.list)
		if len(pins) != c.count {
			t.Errorf("%v leave %d pins, not %d", c.list, len(pins), c.count)
		}
		holdLeft(t, c.list, pins, pins[len(pins)/2])
		holdLeft(t, c.list, pins, "5050"[:len(c.list[0].Pin)])
	}
}

func TestWorstLeftByHand(t *testing.T) {
	for _, c := range []struct {
		list  []impl.Guess
		guess string
		worst int
	}{
		{[]impl.Guess{guessed("12", 0, 2)}, "21", 1}, {[]impl.Guess{guessed("12", 0, 2)}, "34", 1}, {[]impl.Guess{guessed("12", 1, 1)}, "12", 0}, {[]impl.Guess{guessed("11", 0, 2)}, "00", 0},
		// 231 and 312 tell the same for 123 and 111, but not for each other.
		{[]impl.Guess{guessed("123", 0, 3)}, "123", 2}, {[]impl.Guess{guessed("123", 0, 3)}, "111", 2}, {[]impl.Guess{guessed("123", 0, 3)}, "231", 1}, {[]impl.Guess{guessed("123", 0, 3)}, "299", 1},
		{[]impl.Guess{guessed("0000", 0, 0)}, "0000", 6561}, {[]impl.Guess{guessed("0000", 0, 0)}, "1111", 4096}, {[]impl.Guess{guessed("11", 1, 0)}, "22", 16}, {[]impl.Guess{guessed("11", 1, 0)}, "10", 8},
	} {
		if got, ok := impl.WorstLeft(c.list, c.guess); got != c.worst || !ok {
			t.Errorf("WorstLeft %v, %s: %d %v", c.list, c.guess, got, ok)
		}
	}
}

func TestBestGuessByHand(t *testing.T) {
	for _, c := range []struct {
		list  []impl.Guess
		best  string
		worst int
		ok    bool
	}{
		{[]impl.Guess{guessed("12", 0, 2)}, "21", 1, true}, {[]impl.Guess{guessed("12", 1, 1)}, "", 0, false}, {[]impl.Guess{guessed("0000", 0, 0)}, "", 0, false},
		// Both of the one are as good, and all three of the other one.
		{[]impl.Guess{guessed("123", 0, 3)}, "231", 1, true}, {[]impl.Guess{guessed("0001", 2, 2)}, "0010", 2, true},
		// All 18 are as good: one that is not told alone has its 1 where 8 others have it.
		{[]impl.Guess{guessed("11", 1, 0)}, "01", 8, true},
		// The first one left is 00, for which 9 pins tell the same by the one guess, and 49 by the other one.
		{[]impl.Guess{guessed("09", 1, 0)}, "01", 8, true}, {[]impl.Guess{guessed("28", 0, 0)}, "01", 36, true},
	} {
		if got, worst, ok := impl.BestGuess(c.list); got != c.best || worst != c.worst || ok != c.ok {
			t.Errorf("BestGuess %v: %s %d %v", c.list, got, worst, ok)
		}
	}
}

// TestBestGuessIsLeft holds BestGuess against WorstLeft of each pin that is left.
func TestBestGuessIsLeft(t *testing.T) {
	notFirst := 0
	for _, list := range [][]impl.Guess{{guessed("0123", 2, 1)}, {guessed("1122", 1, 2)}, {guessed("012", 1, 1)}, {guessed("493", 1, 1)}, {guessed("2454", 0, 3)}, {guessed("2021", 1, 1), guessed("1120", 0, 3)}} {
		left, _ := impl.PinsLeft(list)
		best, least, ok := impl.BestGuess(list)
		at := slices.Index(left, best)
		if !ok || at < 0 {
			t.Errorf("BestGuess %v: %s %v of %q", list, best, ok, left)
			continue
		}
		for i, pin := range left {
			if worst, _ := impl.WorstLeft(list, pin); worst < least || worst == least && i < at {
				t.Errorf("BestGuess %v: %s with %d, but %s has %d", list, best, least, pin, worst)
			}
		}
		if at > 0 {
			notFirst++
		}
	}
	if notFirst == 0 {
		t.Error("the first pin left is always the best guess here")
	}
}

// TestPinsLeftAreNew writes into a result, and into the room behind it: later ones may not change by this.
func TestPinsLeftAreNew(t *testing.T) {
	for range 2 {
		left, ok := impl.PinsLeft([]impl.Guess{guessed("0001", 2, 2)})
		if !slices.Equal(left, []string{"0010", "0100", "1000"}) || !ok {
			t.Fatal("PinsLeft", left, ok)
		}
		for i := range left[:cap(left)] {
			left[:cap(left)][i] = "9999"
		}
	}
}

// TestGuessesStay gives guesses that have room behind them, and then holds guesses and room against what they were.
func TestGuessesStay(t *testing.T) {
	for _, list := range [][]impl.Guess{{guessed("12", 0, 2)}, {guessed("9876", 0, 0), guessed("0123", 1, 2)}, {guessed("12", 3, 3)}, {guessed("12", 0, 0), guessed("123", 0, 0)}} {
		room := append(slices.Clone(list), guessed("77", 7, 7), guessed("", -1, 0))
		before := slices.Clone(room)
		given := room[:len(list)]
		impl.AreGuesses(given)
		impl.PinsLeft(given)
		impl.CountPinsLeft(given)
		impl.WorstLeft(given, given[0].Pin)
		impl.BestGuess(given)
		if !slices.Equal(room, before) {
			t.Errorf("%v became %v", before, room)
		}
	}
}

// TestNobodyChoosesOn holds that nothing goes on behind a call, as pins are not all taken if there are too many.
func TestNobodyChoosesOn(t *testing.T) {
	before := runtime.NumGoroutine()
	for range 100 {
		impl.PinsLeft([]impl.Guess{guessed("0000", 0, 0)})
		impl.BestGuess([]impl.Guess{guessed("0000", 0, 0)})
		impl.CountPinsLeft([]impl.Guess{guessed("00", 0, 0)})
		impl.WorstLeft([]impl.Guess{guessed("00", 0, 0)}, "12")
	}
	holdNoMoreRun(t, before)
}

// holdNoMoreRun holds that no more goroutines run than before.
func holdNoMoreRun(t *testing.T, before int) {
	t.Helper()
	// One that has just ended may still be counted for a moment.
	for range 100 {
		if runtime.NumGoroutine() <= before {
			return
		}
		time.Sleep(10 * time.Millisecond)
	}
	t.Errorf("%d goroutines, and %d before", runtime.NumGoroutine(), before)
}

// TestPinsLeftRepeat calls everything again, as no result may depend on who comes first.
func TestPinsLeftRepeat(t *testing.T) {
	list := []impl.Guess{guessed("0123", 2, 1)}
	left, _ := impl.PinsLeft(list)
	best, least, _ := impl.BestGuess(list)
	for range 50 {
		if again, ok := impl.PinsLeft(list); !slices.Equal(again, left) || !ok {
			t.Fatalf("PinsLeft %v: %q, and then %q", list, left, again)
		}
		if again, worst, ok := impl.BestGuess(list); again != best || worst != least || !ok {
			t.Fatalf("BestGuess %v: %s %d, and then %s %d", list, best, least, again, worst)
		}
		if again, ok := impl.PinsLeft([]impl.Guess{guessed("0000", 0, 0)}); again != nil || ok {
			t.Fatalf("PinsLeft of too many: %d %v", len(again), ok)
		}
	}
}
