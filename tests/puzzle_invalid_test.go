package tests

import (
	"slices"
	"strings"
	"testing"

	"loop.example/g01350/impl"
)

// notHidden are texts of every kind that are no hidden numbers.
var notHidden = []string{
	"", " ", "0", "5", "9", "a", "1a", "a1", "1 ", " 1", "-1", "+1", "1.", ".1", "1,", "*1", "1*", "#0", "/0", "0/", ":0", "0:", "12a", "1a2", "a12", "12 ", " 12", "12\n", "-12", "+12", "1.2", "1_2", "0x1", "1e2", "12é", "é", "é1", "１", "１２", "\x00", "0\x00", "\xff", "0\xff",
	"0000", "1234", "5555", "12 3", strings.Repeat("0", 100000), strings.Repeat("é", 3), strings.Repeat("é", 100000),
}

// notClues returns clues that are none of numbers of so many digits: those near the bounds and those far beyond them.
func notClues(digits int) []impl.Clue {
	var clues []impl.Clue
	for _, text := range strings.Fields("-1.0.0 -1.0.1 6.0.0 6.0.1 6.2.1 0.0.-1 0.0.28 0.1.0 0.-1.0 1.-1.0 1.3.0 1.0.-1 1.0.10 2.0.-1 2.0.21 2.1.0 2.-1.0 3.0.-1 3.0.2 3.1.0 3.-1.1 4.1.0 4.1.1 4.0.0 4.0.1 4.10.0 4.10.1 4.-2.1 4.2.-1 4.2.2 4.9.2 5.0.0 5.0.4 5.0.-1 5.1.1 5.-1.1") {
		clues = append(clues, clueOf(text))
	}
	if digits == 2 {
		clues = append(clues, clueOf("1.2.0"), clueOf("1.2.9"))
	}
	for _, far := range farOut {
		clues = append(clues, impl.Clue{Kind: far}, impl.Clue{Kind: far, A: 2, B: 1}, impl.Clue{Kind: far, A: far, B: far}, impl.Clue{Kind: far, A: -far, B: far})
		for kind := range 6 {
			clues = append(clues, impl.Clue{Kind: kind, A: far, B: 1}, impl.Clue{Kind: kind, A: 2, B: far}, impl.Clue{Kind: kind, B: far}, impl.Clue{Kind: kind, A: far, B: far})
		}
	}
	return clues
}

// notPuzzles returns puzzles that are none, with any numbers.
func notPuzzles() []impl.Puzzle {
	fitting := puzzleOf("2:0.0.1,4.2.1").Clues
	puzzles := []impl.Puzzle{{}, {Clues: fitting}, {Clues: []impl.Clue{}}}
	for _, digits := range append([]int{-3, -2, -1, 0, 1, 4, 5, 6}, farOut...) {
		puzzles = append(puzzles, puzzleWith(digits), puzzleWith(digits, fitting...), puzzleWith(digits, fitting[0]), puzzleWith(digits, clueOf("1.0.1")), puzzleWith(digits, impl.Clue{Kind: 1, A: digits, B: 1}), puzzleWith(digits, impl.Clue{Kind: 1, A: digits - 1, B: 1}))
	}
	for _, digits := range hiddenDigits {
		for _, wrong := range notClues(digits) {
			puzzles = append(puzzles, puzzleWith(digits, wrong), puzzleWith(digits, wrong, wrong), puzzleWith(digits, wrong, fitting[0]), puzzleWith(digits, fitting[0], wrong), puzzleWith(digits, fitting[0], wrong, fitting[1]))
			puzzles = append(puzzles, puzzleWith(digits, append(slices.Repeat(fitting, 3)[:5], wrong)...))
		}
		for _, clues := range []int{7, 8, 9, 12, 100000} {
			puzzles = append(puzzles, puzzleWith(digits, slices.Repeat(fitting[:1], clues)...), puzzleWith(digits, slices.Repeat([]impl.Clue{{Kind: -1}}, clues)...))
		}
	}
	return puzzles
}

// puzzleCall is a call with a puzzle, which tells whether all other results are zero, and the last one.
type puzzleCall struct {
	name string
	call func(p impl.Puzzle) (bool, bool)
}

func numberOfPuzzle(name string, call func(p impl.Puzzle) (int, bool)) puzzleCall {
	return puzzleCall{name, func(p impl.Puzzle) (bool, bool) {
		got, ok := call(p)
		return got == 0, ok
	}}
}

func textOfPuzzle(name string, call func(p impl.Puzzle) (string, bool)) puzzleCall {
	return puzzleCall{name, func(p impl.Puzzle) (bool, bool) {
		got, ok := call(p)
		return got == "", ok
	}}
}

func numbersOfPuzzle(name string, call func(p impl.Puzzle) ([]int, bool)) puzzleCall {
	return puzzleCall{name, func(p impl.Puzzle) (bool, bool) {
		got, ok := call(p)
		return got == nil, ok
	}}
}

func isZeroPuzzle(p impl.Puzzle) bool { return p.Digits == 0 && p.Clues == nil }

func puzzleOfPuzzle(name string, call func(p impl.Puzzle) (impl.Puzzle, bool)) puzzleCall {
	return puzzleCall{name, func(p impl.Puzzle) (bool, bool) {
		got, ok := call(p)
		return isZeroPuzzle(got), ok
	}}
}

// withPuzzle are calls with a puzzle, and with an index and a clue where these are needed.
func withPuzzle(k int, c impl.Clue) []puzzleCall {
	return []puzzleCall{
		{"Solutions", func(p impl.Puzzle) (bool, bool) {
			solutions, ok := impl.Solutions(p)
			return solutions == nil, ok
		}},
		{"IsSolved", func(p impl.Puzzle) (bool, bool) {
			is, ok := impl.IsSolved(p)
			return !is, ok
		}},
		numberOfPuzzle("CountSolutions", impl.CountSolutions), numberOfPuzzle("BestClue", impl.BestClue),
		textOfPuzzle("FirstSolution", impl.FirstSolution), textOfPuzzle("SureDigits", impl.SureDigits), textOfPuzzle("PuzzleText", impl.PuzzleText),
		numbersOfPuzzle("NeedlessClues", impl.NeedlessClues), numbersOfPuzzle("LeftByClues", impl.LeftByClues),
		puzzleOfPuzzle("HarderPuzzle", impl.HarderPuzzle),
		puzzleOfPuzzle("DropClue", func(p impl.Puzzle) (impl.Puzzle, bool) { return impl.DropClue(p, k) }),
		puzzleOfPuzzle("AddClue", func(p impl.Puzzle) (impl.Puzzle, bool) { return impl.AddClue(p, c) }),
	}
}

func TestPuzzleLimits(t *testing.T) {
	if impl.MaxHidden != 3 || impl.MaxClues != 6 {
		t.Error(impl.MaxHidden, impl.MaxClues)
	}
	for digits := -1; digits <= 6; digits++ {
		for clues := range 10 {
			p := puzzleWith(digits, slices.Repeat([]impl.Clue{{Kind: 5, B: 1}}, clues)...)
			if is := 2 <= digits && digits <= 3 && clues <= 6; impl.IsPuzzle(p) != is {
				t.Errorf("IsPuzzle %v: %v", p, !is)
			}
		}
	}
}

func TestNotPuzzles(t *testing.T) {
	calls := slices.Concat(withPuzzle(0, clueOf("0.0.1")), withPuzzle(1, clueOf("5.0.1")), withPuzzle(-1, clueOf("6.0.0")), withPuzzle(6, clueOf("1.1.1")))
	for _, p := range notPuzzles() {
		if impl.IsPuzzle(p) {
			t.Errorf("IsPuzzle %d, %.10v", p.Digits, p.Clues[:min(len(p.Clues), 9)])
		}
		for _, f := range calls {
			if zero, ok := f.call(p); !zero || ok {
				t.Errorf("%s of %d, %.10v: zero %v, %v", f.name, p.Digits, p.Clues[:min(len(p.Clues), 9)], zero, ok)
			}
		}
	}
}

// TestNotHidden gives texts that are no hidden numbers, with clues of numbers of 2 and of 3 digits.
func TestNotHidden(t *testing.T) {
	var calls []brokenCall
	for _, c := range append(cluesOf(3), clueOf("6.0.0"), impl.Clue{Kind: -1}) {
		calls = append(calls, callBools("DoesFit", func(text string) (bool, bool) { return impl.DoesFit(c, text) }))
	}
	for clues := range impl.MaxClues + 1 {
		calls = append(calls, brokenCall{"MakePuzzle", func(text string) (bool, bool) {
			p, ok := impl.MakePuzzle(text, clues, clues*1000)
			return isZeroPuzzle(p), ok
		}})
	}
	holdInvalid(t, calls, notHidden)
}

// TestNotClues gives clues that are none, to numbers of as many digits and to puzzles without and with other ones.
func TestNotClues(t *testing.T) {
	for _, digits := range hiddenDigits {
		for _, wrong := range notClues(digits) {
			for _, number := range []string{"000"[:digits], "999"[:digits], "123"[:digits], "049"[:digits]} {
				if fits, ok := impl.DoesFit(wrong, number); fits || ok {
					t.Errorf("DoesFit %v, %q: %v %v", wrong, number, fits, ok)
				}
			}
			for clues := range impl.MaxClues + 1 {
				p := puzzleWith(digits, slices.Repeat([]impl.Clue{{Kind: 5, B: 1}}, clues)...)
				if more, ok := impl.AddClue(p, wrong); !isZeroPuzzle(more) || ok {
					t.Errorf("AddClue %v, %v: %v %v", p, wrong, more, ok)
				}
			}
		}
	}
	// A place that only numbers of 3 digits have.
	if fits, ok := impl.DoesFit(clueOf("1.2.0"), "000"); !fits || !ok {
		t.Error("DoesFit 1.2.0, 000", fits, ok)
	}
	if fits, ok := impl.DoesFit(clueOf("1.2.0"), "00"); fits || ok {
		t.Error("DoesFit 1.2.0, 00", fits, ok)
	}
}

func numberForPuzzle(name string, least int, most int, call func(number int) (impl.Puzzle, bool)) pinNumber {
	return pinNumber{name, least, most, func(number int) (bool, bool) {
		got, ok := call(number)
		return isZeroPuzzle(got), ok
	}}
}

// puzzleNumbers are calls with an index, with so many clues, and with a seed.
func puzzleNumbers() []pinNumber {
	calls := []pinNumber{
		numberForPuzzle("MakePuzzle, clues", 0, 6, func(clues int) (impl.Puzzle, bool) { return impl.MakePuzzle("640", clues, 1) }),
		numberForPuzzle("MakePuzzle of 2 digits, clues", 0, 6, func(clues int) (impl.Puzzle, bool) { return impl.MakePuzzle("00", clues, 9999) }),
		numberForPuzzle("MakePuzzle, seed", 0, 9999, func(seed int) (impl.Puzzle, bool) { return impl.MakePuzzle("640", 6, seed) }),
		numberForPuzzle("MakePuzzle without clues, seed", 0, 9999, func(seed int) (impl.Puzzle, bool) { return impl.MakePuzzle("64", 0, seed) }),
		numberForPuzzle("MakePuzzle, clues and seed", 0, 6, func(number int) (impl.Puzzle, bool) { return impl.MakePuzzle("64", number, number) }),
	}
	for clues := range impl.MaxClues + 1 {
		p := puzzleWith(3, slices.Repeat([]impl.Clue{{Kind: 5, B: 1}}, clues)...)
		calls = append(calls, numberForPuzzle("DropClue", 0, clues-1, func(k int) (impl.Puzzle, bool) { return impl.DropClue(p, k) }))
	}
	return calls
}

func TestPuzzleNumbersOutOfBounds(t *testing.T) {
	for _, f := range puzzleNumbers() {
		for _, number := range append([]int{-2, -1, 0, 1, 2, 3, 4, 5, 6, 7, 8, 9, 9998, 9999}, farOut...) {
			zero, ok := f.call(number)
			if fine := f.least <= number && number <= f.most; ok != fine || zero == fine {
				t.Errorf("%s, %d: zero %v, %v", f.name, number, zero, ok)
			}
		}
	}
}

// TestPuzzlesStay gives clues that have room behind them, and then holds clues and room against what they were.
func TestPuzzlesStay(t *testing.T) {
	short := slices.DeleteFunc(notPuzzles(), func(p impl.Puzzle) bool { return len(p.Clues) > 10 })
	for _, p := range slices.Concat(randomPuzzles(99, 20), short) {
		room := append(slices.Clone(p.Clues), clueOf("4.7.1"), clueOf("9.9.9"), impl.Clue{})
		before := slices.Clone(room)
		given := puzzleWith(p.Digits, room[:len(p.Clues)]...)
		impl.IsPuzzle(given)
		for k := range len(p.Clues) + 1 {
			for _, f := range withPuzzle(k, clueOf("3.0.1")) {
				f.call(given)
			}
		}
		if !slices.Equal(room, before) {
			t.Errorf("%v became %v", before, room)
		}
	}
}

// overwritten writes into all clues of a puzzle, and into the room behind them.
func overwritten(p impl.Puzzle) {
	clues := p.Clues[:cap(p.Clues)]
	for at := range clues {
		clues[at] = impl.Clue{Kind: 9, A: 9, B: 9}
	}
}

// TestPuzzlesAreNew writes into results: neither arguments nor later results may change by this.
func TestPuzzlesAreNew(t *testing.T) {
	const text = "2:0.0.1,4.2.1,5.0.2"
	p := puzzleWith(2, append(make([]impl.Clue, 0, 40), puzzleOf(text).Clues...)...)
	minimal := puzzleWith(2, p.Clues[:2]...)
	for range 2 {
		first, _ := impl.DropClue(p, 0)
		last, _ := impl.DropClue(p, 2)
		more, _ := impl.AddClue(p, clueOf("3.0.0"))
		again, _ := impl.AddClue(p, clueOf("3.0.1"))
		harder, _ := impl.HarderPuzzle(p)
		same, _ := impl.HarderPuzzle(minimal)
		made, _ := impl.MakePuzzle("10", 2, 0)
		read, _ := impl.ParsePuzzle(text)
		results := []impl.Puzzle{first, last, more, again, harder, same, made, read}
		for i, want := range []string{"2:4.2.1,5.0.2", "2:0.0.1,4.2.1", text + ",3.0.0", text + ",3.0.1", "2:0.0.1,4.2.1", "2:0.0.1,4.2.1", "2:1.1.0,5.0.2", text} {
			if !samePuzzle(results[i], puzzleOf(want)) {
				t.Errorf("%d: %v, not %s", i, results[i], want)
			}
			overwritten(results[i])
		}
		if !samePuzzle(p, puzzleOf(text)) || slices.ContainsFunc(p.Clues[:cap(p.Clues)][3:], func(c impl.Clue) bool { return c != impl.Clue{} }) {
			t.Fatal(p.Clues[:cap(p.Clues)])
		}
	}
}

// TestPuzzleListsAreNew writes into lists of numbers and of texts, and into the room behind them.
func TestPuzzleListsAreNew(t *testing.T) {
	p := puzzleOf("2:0.0.1,4.2.1,4.2.1")
	for range 2 {
		needless, _ := impl.NeedlessClues(p)
		left, _ := impl.LeftByClues(p)
		solutions, _ := impl.Solutions(puzzleOf("2:0.0.2"))
		if !slices.Equal(needless, []int{1, 2}) || !slices.Equal(left, []int{100, 2, 1, 1}) || !slices.Equal(solutions, []string{"02", "11", "20"}) {
			t.Error(needless, left, solutions)
		}
		for _, list := range [][]int{needless[:cap(needless)], left[:cap(left)]} {
			for at := range list {
				list[at] = 99
			}
		}
		for at := range solutions[:cap(solutions)] {
			solutions[:cap(solutions)][at] = "99"
		}
	}
}
