package tests

import (
	"math"
	"slices"
	"strconv"
	"strings"
	"testing"

	"loop.example/g01350/impl"
)

// hiddenDigits are the numbers of digits that hidden numbers have.
var hiddenDigits = []int{2, 3}

// hiddenNumbers are all hidden numbers of so many digits, in order.
var hiddenNumbers = map[int][]string{2: wordsOf(walkDigits, 2), 3: wordsOf(walkDigits, 3)}

// farOut are out of all bounds of puzzles.
var farOut = []int{math.MinInt, math.MinInt + 1, math.MinInt + 2, -1 << 32, -1<<32 + 2, -10000, -100, -10, 28, 100, 256, 258, 10000, 10001, 1 << 32, 1<<32 + 1, 1<<32 + 2, math.MaxInt - 1, math.MaxInt}

// clueOf returns the clue whose Kind, A and B a text has with points between them.
func clueOf(text string) impl.Clue {
	var numbers [3]int
	for i, part := range strings.Split(text, ".") {
		numbers[i], _ = strconv.Atoi(part)
	}
	return impl.Clue{Kind: numbers[0], A: numbers[1], B: numbers[2]}
}

// cluesOf returns all clues of numbers of so many digits, written out kind by kind.
func cluesOf(digits int) []impl.Clue {
	var clues []impl.Clue
	add := func(kind int, a int, from int, to int) {
		for b := from; b <= to; b++ {
			clues = append(clues, impl.Clue{Kind: kind, A: a, B: b})
		}
	}
	add(0, 0, 0, 27)
	add(1, 0, 0, 9)
	add(1, 1, 0, 9)
	if digits == 3 {
		add(1, 2, 0, 9)
	}
	add(2, 0, 0, 20)
	add(3, 0, 0, 1)
	for divisor := 2; divisor <= 9; divisor++ {
		add(4, divisor, 0, 1)
	}
	add(5, 0, 1, 3)
	return clues
}

// fitsByHand reports whether a number fits a clue, by the signs of the number and not by its digits.
func fitsByHand(c impl.Clue, number string) bool {
	switch c.Kind {
	case 0:
		return sumByDigits(number) == c.B
	case 1:
		return number[c.A:c.A+1] == walkDigits[c.B:c.B+1]
	case 2:
		return stepsOf(number, "5", false) == c.B
	case 3:
		return isGone("n", number) == (c.B == 1)
	case 4:
		return isMultiple(number, c.A) == (c.B == 1)
	}
	return countSigns(number) == c.B
}

func sumByDigits(number string) int {
	sum := 0
	for sign := range walkDigits {
		sum += sign * strings.Count(number, walkDigits[sign:sign+1])
	}
	return sum
}

// isMultiple divides digit by digit, as one does on paper.
func isMultiple(number string, divisor int) bool {
	rest := 0
	for _, sign := range number {
		rest = (rest*10 + strings.IndexRune(walkDigits, sign)) % divisor
	}
	return rest == 0
}

func countSigns(number string) int {
	count := 0
	for _, digit := range splitDigits() {
		if strings.Contains(number, digit) {
			count++
		}
	}
	return count
}

// TestIsClue holds all clues with small numbers, for all numbers of digits near those of hidden numbers.
func TestIsClue(t *testing.T) {
	for digits := -1; digits <= 6; digits++ {
		known := map[impl.Clue]bool{}
		if slices.Contains(hiddenDigits, digits) {
			for _, c := range cluesOf(digits) {
				known[c] = true
			}
		}
		for kind := -3; kind <= 9; kind++ {
			for a := -3; a <= 13; a++ {
				for b := -3; b <= 31; b++ {
					c := impl.Clue{Kind: kind, A: a, B: b}
					if got := impl.IsClue(digits, c); got != known[c] {
						t.Errorf("IsClue %d, %v: %v", digits, c, got)
					}
				}
			}
		}
	}
}

// TestIsClueByHand holds the bounds of every kind and what is just beyond them.
func TestIsClueByHand(t *testing.T) {
	for _, c := range []struct {
		text     string
		of2, of3 bool
	}{
		{"0.0.0", true, true}, {"0.0.27", true, true}, {"0.0.28", false, false}, {"0.0.-1", false, false}, {"0.1.5", false, false}, {"0.-1.5", false, false},
		{"1.0.0", true, true}, {"1.0.9", true, true}, {"1.0.10", false, false}, {"1.0.-1", false, false}, {"1.1.0", true, true}, {"1.2.0", false, true}, {"1.2.9", false, true}, {"1.2.10", false, false}, {"1.3.0", false, false}, {"1.-1.0", false, false},
		{"2.0.0", true, true}, {"2.0.20", true, true}, {"2.0.21", false, false}, {"2.0.-1", false, false}, {"2.1.4", false, false}, {"2.5.4", false, false}, {"2.-1.4", false, false},
		{"3.0.0", true, true}, {"3.0.1", true, true}, {"3.0.2", false, false}, {"3.0.-1", false, false}, {"3.1.1", false, false}, {"3.-1.0", false, false},
		{"4.2.0", true, true}, {"4.2.1", true, true}, {"4.9.0", true, true}, {"4.9.1", true, true}, {"4.1.1", false, false}, {"4.0.0", false, false}, {"4.0.1", false, false}, {"4.10.1", false, false}, {"4.2.2", false, false}, {"4.9.-1", false, false}, {"4.-2.1", false, false},
		{"5.0.1", true, true}, {"5.0.2", true, true}, {"5.0.3", true, true}, {"5.0.0", false, false}, {"5.0.4", false, false}, {"5.1.2", false, false}, {"5.-1.2", false, false},
		{"-1.0.0", false, false}, {"-1.0.1", false, false}, {"6.0.0", false, false}, {"6.0.1", false, false}, {"6.2.1", false, false}, {"7.0.1", false, false},
	} {
		clue := clueOf(c.text)
		for digits, want := range []bool{false, false, c.of2, c.of3, false, false} {
			if got := impl.IsClue(digits, clue); got != want {
				t.Errorf("IsClue %d, %s: %v", digits, c.text, got)
			}
		}
	}
}

// TestIsClueFar gives numbers far out of bounds, at which sums and differences may overflow.
func TestIsClueFar(t *testing.T) {
	for _, far := range farOut {
		for _, c := range cluesOf(3) {
			for _, digits := range hiddenDigits {
				for _, wrong := range []impl.Clue{{Kind: far, A: c.A, B: c.B}, {Kind: c.Kind, A: far, B: c.B}, {Kind: c.Kind, A: c.A, B: far}, {Kind: far, A: far, B: far}} {
					if impl.IsClue(digits, wrong) {
						t.Errorf("IsClue %d, %v", digits, wrong)
					}
				}
			}
			if impl.IsClue(far, c) || impl.IsClue(far, impl.Clue{Kind: c.Kind, A: far, B: c.B}) || impl.IsClue(far, impl.Clue{Kind: c.Kind, A: far - 1, B: c.B}) {
				t.Errorf("IsClue %d, %v", far, c)
			}
		}
	}
}

func holdFit(t *testing.T, c impl.Clue, number string, want bool) {
	t.Helper()
	if fits, ok := impl.DoesFit(c, number); fits != want || !ok {
		t.Errorf("DoesFit %v, %q: %v %v, not %v", c, number, fits, ok, want)
	}
}

// TestDoesFit holds all clues against all hidden numbers.
func TestDoesFit(t *testing.T) {
	for _, digits := range hiddenDigits {
		for _, c := range cluesOf(digits) {
			for _, number := range hiddenNumbers[digits] {
				holdFit(t, c, number, fitsByHand(c, number))
			}
		}
	}
}

func TestDoesFitByHand(t *testing.T) {
	for _, c := range []struct{ clue, fit, not string }{
		{"0.0.0", "00 000", "01 10 100"}, {"0.0.1", "01 10 100 010 001", "00 11 02 110"}, {"0.0.18", "99 990 099 666", "98 89 999"}, {"0.0.27", "999", "99 998 989"}, {"0.0.19", "991 919 199", "99 19"},
		{"1.0.7", "70 79 700", "07 17 170"}, {"1.1.7", "07 77 170 977", "70 78 707"}, {"1.2.7", "007 117 777", "700 070 776"}, {"1.0.0", "00 01 099", "10 100"}, {"1.1.9", "09 99 090", "90 909"},
		{"2.0.0", "55 555", "54 45 554"}, {"2.0.1", "54 56 52 58 44 556 552", "55 45 555"}, {"2.0.2", "57 59 53 51 50 00 45 80 585", "55 54 01"}, {"2.0.3", "42 26 454 252", "55 41 545"}, {"2.0.6", "19 73 10 01 03", "13 17 00"}, {"2.0.10", "010 030 019 101", "999 012"}, {"2.0.20", "", "00 99 000 010 999"},
		{"3.0.1", "72 76 49 40 04 16 61 049 160 604", "71 11 00 55 05 50 721"}, {"3.0.0", "00 11 55 50 75 720 555", "72 76 049 940 494"},
		{"4.2.1", "00 10 02 98 000 132", "01 11 99 133"}, {"4.2.0", "01 99 777", "00 10 778"}, {"4.9.1", "00 09 90 99 009 738 999", "01 10 98 739"}, {"4.9.0", "01 98 739", "00 99 738"}, {"4.7.1", "07 70 77 007 028 994 000", "71 17 078"}, {"4.6.1", "06 60 96 900", "16 08 09 902"}, {"4.8.1", "08 80 88 096 800 008", "04 18 804"}, {"4.3.1", "03 12 99 111", "13 31 112"}, {"4.4.1", "04 40 100", "14 02 102"}, {"4.5.1", "05 50 00 115", "51 56 113"}, {"4.3.0", "13 112", "12 00 111"},
		{"5.0.1", "00 55 99 000 777", "01 10 001 123"}, {"5.0.2", "01 10 98 001 010 100 993", "00 99 000 012"}, {"5.0.3", "012 987 405", "00 01 011 101 110 111"},
	} {
		for _, number := range strings.Fields(c.fit) {
			holdFit(t, clueOf(c.clue), number, true)
		}
		for _, number := range strings.Fields(c.not) {
			holdFit(t, clueOf(c.clue), number, false)
		}
	}
}

// TestFitsEachKind holds that of each kind, for every number and every A, just one B fits if there is one for what is so.
func TestFitsEachKind(t *testing.T) {
	for _, digits := range hiddenDigits {
		for _, number := range hiddenNumbers[digits] {
			fitting := map[[2]int]int{}
			for _, c := range cluesOf(digits) {
				if fits, _ := impl.DoesFit(c, number); fits {
					fitting[[2]int{c.Kind, c.A}]++
				}
			}
			if len(fitting) != 4+digits+8 {
				t.Errorf("%q fits clues of %v", number, fitting)
			}
			for of, fits := range fitting {
				if fits != 1 {
					t.Errorf("%q fits %d clues of Kind and A %v", number, fits, of)
				}
			}
		}
	}
}
