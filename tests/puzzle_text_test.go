package tests

import (
	"regexp"
	"strings"
	"testing"

	"loop.example/g01350/impl"
)

// clueSigns are patterns of the texts of clues, for numbers of 2 and of 3 digits.
var clueSigns = map[string]string{"2": clueSignsWith("[01]"), "3": clueSignsWith("[012]")}

func clueSignsWith(places string) string {
	return `(0\.0\.(1?[0-9]|2[0-7])|1\.` + places + `\.[0-9]|2\.0\.(1?[0-9]|20)|3\.0\.[01]|4\.[2-9]\.[01]|5\.0\.[123])`
}

// puzzleSigns is a pattern of the texts of all puzzles.
var puzzleSigns = regexp.MustCompile(`^(2:(` + clueSigns["2"] + `(,` + clueSigns["2"] + `){0,5})?|3:(` + clueSigns["3"] + `(,` + clueSigns["3"] + `){0,5})?)$`)

// clueNumbers has the texts of all numbers that clues have.
var clueNumbers = strings.Fields("0 1 2 3 4 5 6 7 8 9 10 11 12 13 14 15 16 17 18 19 20 21 22 23 24 25 26 27")

func puzzleTextByHand(p impl.Puzzle) string {
	text := clueNumbers[p.Digits]
	sign := ":"
	for _, c := range p.Clues {
		text += sign + clueNumbers[c.Kind] + "." + clueNumbers[c.A] + "." + clueNumbers[c.B]
		sign = ","
	}
	if len(p.Clues) == 0 {
		text += sign
	}
	return text
}

func TestPuzzleText(t *testing.T) {
	for _, p := range append(somePuzzles(), randomPuzzles(97, 100)...) {
		want := puzzleTextByHand(p)
		text, ok := impl.PuzzleText(p)
		if text != want || !ok {
			t.Errorf("PuzzleText %v: %q %v, not %q", p, text, ok, want)
		}
		if read, ok := impl.ParsePuzzle(want); !samePuzzle(read, p) || !ok {
			t.Errorf("ParsePuzzle %q: %v %v", want, read, ok)
		}
	}
}

func TestPuzzleTextByHand(t *testing.T) {
	for text, p := range map[string]impl.Puzzle{
		"2:": puzzleWith(2), "3:": puzzleWith(3), "2:0.0.1,4.2.1": {Digits: 2, Clues: []impl.Clue{{A: 0, B: 1}, {Kind: 4, A: 2, B: 1}}}, "2:2.0.0": {Digits: 2, Clues: []impl.Clue{{Kind: 2}}},
		"2:1.0.7,3.0.1": {Digits: 2, Clues: []impl.Clue{{Kind: 1, B: 7}, {Kind: 3, B: 1}}}, "3:0.0.27": {Digits: 3, Clues: []impl.Clue{{B: 27}}}, "3:0.0.0": {Digits: 3, Clues: []impl.Clue{{}}}, "3:1.2.9": {Digits: 3, Clues: []impl.Clue{{Kind: 1, A: 2, B: 9}}},
		"2:5.0.3,5.0.3,5.0.3,5.0.3,5.0.3,2.0.20": {Digits: 2, Clues: []impl.Clue{{Kind: 5, B: 3}, {Kind: 5, B: 3}, {Kind: 5, B: 3}, {Kind: 5, B: 3}, {Kind: 5, B: 3}, {Kind: 2, B: 20}}},
	} {
		if got, ok := impl.PuzzleText(p); got != text || !ok {
			t.Errorf("PuzzleText %v: %q %v", p, got, ok)
		}
		if got, ok := impl.ParsePuzzle(text); !samePuzzle(got, p) || !ok {
			t.Errorf("ParsePuzzle %q: %v %v", text, got, ok)
		}
	}
}

// holdRead holds that a text is read just if it looks as those of puzzles do, and then told again. It reports whether it is read.
func holdRead(t *testing.T, text string) bool {
	t.Helper()
	is := puzzleSigns.MatchString(text)
	p, ok := impl.ParsePuzzle(text)
	if ok != is {
		t.Errorf("ParsePuzzle %.100q: %v %v", text, p, ok)
	}
	if !ok && !samePuzzle(p, impl.Puzzle{}) {
		t.Errorf("ParsePuzzle %.100q fails with %v", text, p)
	}
	if ok && (puzzleTextByHand(p) != text || !impl.IsPuzzle(p)) {
		t.Errorf("ParsePuzzle %.100q: %v", text, p)
	}
	return ok
}

// TestParsePuzzleShort holds all short texts of some signs, and what can stand behind the beginning of a puzzle.
func TestParsePuzzleShort(t *testing.T) {
	read := 0
	for _, text := range append(textsOf("0123.:, -+", 5), textsOf("02.:,", 7)...) {
		if holdRead(t, text) {
			read++
		}
	}
	for _, text := range textsOf("0125.,+", 6) {
		for _, begin := range []string{"2:", "3:", "2:4.2.", "3:1.2.3,"} {
			if holdRead(t, begin+text) {
				read++
			}
		}
	}
	if read < 100 {
		t.Errorf("only %d texts are read", read)
	}
}

// TestParsePuzzleNearly changes the texts of puzzles in one place: a sign less, one more, or another one.
func TestParsePuzzleNearly(t *testing.T) {
	for _, p := range randomPuzzles(98, 12) {
		text := puzzleTextByHand(p)
		for at := range len(text) + 1 {
			for _, sign := range strings.Split("0123456789.:,-+ _?x\n\x00é", "") {
				holdRead(t, text[:at]+sign+text[at:])
				if at < len(text) {
					holdRead(t, text[:at]+sign+text[at+1:])
				}
			}
			if at < len(text) {
				holdRead(t, text[:at]+text[at+1:])
			}
		}
	}
}

// TestParseNumbers reads any small numbers, whether clues have them or not.
func TestParseNumbers(t *testing.T) {
	numbers := append([]string{"-1", "28", "30", "00", "01", "100", ""}, clueNumbers...)
	for _, digits := range []string{"1", "2", "3", "4"} {
		for kind := range 8 {
			for _, a := range numbers {
				for _, b := range numbers {
					holdRead(t, digits+":"+clueNumbers[kind]+"."+a+"."+b)
				}
			}
		}
	}
}

// notPuzzleTexts are texts of no puzzle, most of them nearly one.
var notPuzzleTexts = []string{
	"", ":", "2", "3", ",", ".", "2:,", "2:.", "2:..", "2:0", "2:0.0", "2:0.0.", "2:.0.0", "2:0..0", "2:0.0.1,", "2:,0.0.1", "2:0.0.1,,4.2.1", "2:0.0.1;4.2.1", "2:0.0.1.4.2.1", "2:0.0.1.", "2:.0.0.1", "2:0.0.1.0", "2:0.0,1", "2:0,0,1", "2::0.0.1", "2:0.0.1:", "2:0:0.1", "2,0.0.1", "2.0.0.1", "20.0.1", ":0.0.1", "0.0.1", "2:0.0.1\n", "\n2:0.0.1", "2:0.0.1\x00", "2:x.0.1", "2:0.0.x", "two:0.0.1", "2:2:0.0.1", "2:3:", "2:2:",
	// Spaces, signs and leading zeros.
	" 2:0.0.1", "2 :0.0.1", "2: 0.0.1", "2:0 .0.1", "2:0. 0.1", "2:0.0 .1", "2:0.0. 1", "2:0.0.1 ", "2:0.0.1, 4.2.1", "2:0.0.1 ,4.2.1", "2: ", " 2:", "2 :", "+2:0.0.1", "2:+0.0.1", "2:0.+0.1", "2:0.0.+1", "-2:0.0.1", "2:-0.0.1", "2:0.-0.1", "2:0.0.-0", "2:0.0.-1", "02:0.0.1", "02:", "2:00.0.1", "2:0.00.1", "2:0.0.01", "2:0.0.00", "2:04.2.1", "2:4.02.1", "2:4.2.01", "2:0.0.1_0", "0x2:0.0.1", "2:0.0.0x1", "2:0.0.1e1", "2:0.0.１", "２:0.0.1",
	// Numbers out of bounds.
	"0:", "1:", "4:", "5:", "-1:", "-2:", "10:", "22:", "0:0.0.1", "1:0.0.1", "4:0.0.1", "2:0.0.28", "2:0.1.1", "2:1.2.3", "3:1.3.3", "2:1.0.10", "2:2.0.21", "2:3.0.2", "2:3.1.1", "2:4.1.1", "2:4.0.1", "2:4.10.1", "2:4.2.2", "2:5.0.0", "2:5.0.4", "2:6.0.0", "2:6.0.1", "2:-1.0.0", "2:-1.-1.-1", "2:7.0.0", "2:10.0.0",
	"9223372036854775807:", "9223372036854775808:", "18446744073709551618:", "4294967298:0.0.1", "2:4294967296.0.1", "2:18446744073709551616.0.1", "2:0.18446744073709551616.1", "2:0.0.18446744073709551617", "2:0.0.4294967297", "2:4.4294967298.1", "2:0.0.9223372036854775807", "2:0.0.-9223372036854775808", "2:0.0.99999999999999999999999", "99999999999999999999999:", "258:", "2:256.0.1",
	// One clue too many, and many more.
	"2:0.0.1,0.0.1,0.0.1,0.0.1,0.0.1,0.0.1,0.0.1", "2:0.0.1,0.0.1,0.0.1,0.0.1,0.0.1,0.0.1,", "2:0.0.1,0.0.1,0.0.1,0.0.1,0.0.1,0.0.1,4.2.1,4.2.1", "2:" + strings.Repeat("0.0.1,", 100000) + "0.0.1", "2:" + strings.Repeat(",", 100000), "2:" + strings.Repeat(".", 100000), strings.Repeat("2:", 100000), strings.Repeat("2", 100000) + ":", "2:0.0." + strings.Repeat("1", 100000), "2:" + strings.Repeat("0.", 100000) + "0", strings.Repeat(":", 100000), strings.Repeat("0", 100000),
	"2:0.0.1é", "é", "\xff", "\xff:", "2:\xff", "2:0.0.\xff",
}

func TestNotPuzzleTexts(t *testing.T) {
	for _, text := range notPuzzleTexts {
		if p, ok := impl.ParsePuzzle(text); p.Digits != 0 || p.Clues != nil || ok {
			t.Errorf("ParsePuzzle %.100q: %v %v", text, p, ok)
		}
		if puzzleSigns.MatchString(text) {
			t.Errorf("%.100q looks like a puzzle", text)
		}
	}
}
