package tests

import (
	"math/rand"
	"slices"
	"strings"
	"testing"

	"loop.example/g01350/impl"
)

// clueFits tells for all clues of numbers of so many digits which of these numbers, in order, fit.
var clueFits = map[int]map[impl.Clue][]bool{2: fitsOf(2), 3: fitsOf(3)}

func fitsOf(digits int) map[impl.Clue][]bool {
	fits := map[impl.Clue][]bool{}
	for _, c := range cluesOf(digits) {
		for _, number := range hiddenNumbers[digits] {
			fits[c] = append(fits[c], fitsByHand(c, number))
		}
	}
	return fits
}

func puzzleWith(digits int, clues ...impl.Clue) impl.Puzzle {
	return impl.Puzzle{Digits: digits, Clues: clues}
}

// puzzleOf returns the puzzle of a text whose first sign are its Digits, with its clues behind the next one.
func puzzleOf(text string) impl.Puzzle {
	p := puzzleWith(strings.Index(walkDigits, text[:1]))
	for _, clue := range strings.FieldsFunc(text[2:], func(sign rune) bool { return sign == ',' }) {
		p.Clues = append(p.Clues, clueOf(clue))
	}
	return p
}

func samePuzzle(a impl.Puzzle, b impl.Puzzle) bool {
	return a.Digits == b.Digits && slices.Equal(a.Clues, b.Clues)
}

// numbersFitting returns, in order, all numbers of so many digits that fit all clues.
func numbersFitting(digits int, clues ...impl.Clue) []string {
	var numbers []string
	for i, number := range hiddenNumbers[digits] {
		fits := true
		for _, c := range clues {
			fits = fits && clueFits[digits][c][i]
		}
		if fits {
			numbers = append(numbers, number)
		}
	}
	return numbers
}

// sureByHand returns for each place the one digit of some numbers, or ? if there are several.
func sureByHand(numbers []string) string {
	sure := ""
	for place := range numbers[0] {
		at := map[string]bool{}
		for _, number := range numbers {
			at[number[place:place+1]] = true
		}
		if len(at) > 1 {
			sure += "?"
		} else {
			sure += numbers[0][place : place+1]
		}
	}
	return sure
}

// puzzleKnown has what is known of a puzzle by a list: its text, how many solutions it has, the first ones, its sure digits, its needless clues, how many numbers the first clues leave, the best clue, and the harder one. A puzzle without solutions has no sure digits, and one that is not solved no harder one.
type puzzleKnown struct {
	text     string
	count    int
	first    string
	sure     string
	needless []int
	left     []int
	best     int
	harder   string
}

// noneBest tells that a puzzle has no best clue, as it has none.
const noneBest = -1

// puzzlesKnown are worked out without the program.
var puzzlesKnown = []puzzleKnown{
	// The document's examples.
	{"2:0.0.1,4.2.1", 1, "10", "10", nil, []int{100, 2, 1}, 0, "2:0.0.1,4.2.1"},
	{"2:2.0.0", 1, "55", "55", nil, []int{100, 1}, 0, "2:2.0.0"},
	{"2:1.0.7,3.0.1", 2, "72,76", "7?", nil, []int{100, 10, 2}, 0, ""},
	{"2:3.0.1", 20, "04,06,16,18", "??", nil, []int{100, 20}, 0, ""},
	// Without a clue all numbers are solutions.
	{"2:", 100, "00,01,02,03", "??", nil, []int{100}, noneBest, ""},
	{"3:", 1000, "000,001,002,003", "???", nil, []int{1000}, noneBest, ""},
	// One clue, and one solution or none.
	{"2:0.0.18", 1, "99", "99", nil, []int{100, 1}, 0, "2:0.0.18"},
	{"2:0.0.19", 0, "", "", nil, []int{100, 0}, 0, ""},
	{"2:5.0.3", 0, "", "", nil, []int{100, 0}, 0, ""},
	{"3:0.0.0", 1, "000", "000", nil, []int{1000, 1}, 0, "3:0.0.0"},
	{"3:0.0.27", 1, "999", "999", nil, []int{1000, 1}, 0, "3:0.0.27"},
	{"3:2.0.0", 1, "555", "555", nil, []int{1000, 1}, 0, "3:2.0.0"},
	{"3:2.0.20", 0, "", "", nil, []int{1000, 0}, 0, ""},
	// One clue, and many solutions.
	{"2:2.0.6", 8, "01,03,10,19", "??", nil, []int{100, 8}, 0, ""},
	{"2:3.0.0", 80, "00,01,02,03", "??", nil, []int{100, 80}, 0, ""},
	{"2:5.0.1", 10, "00,11,22,33", "??", nil, []int{100, 10}, 0, ""},
	{"2:5.0.2", 90, "01,02,03,04", "??", nil, []int{100, 90}, 0, ""},
	{"3:3.0.1", 46, "040,043,049,060", "???", nil, []int{1000, 46}, 0, ""},
	{"3:3.0.0", 954, "000,001,002,003", "???", nil, []int{1000, 954}, 0, ""},
	{"3:4.7.1", 143, "000,007,014,021", "???", nil, []int{1000, 143}, 0, ""},
	{"3:5.0.1", 10, "000,111,222,333", "???", nil, []int{1000, 10}, 0, ""},
	{"3:5.0.2", 270, "001,002,003,004", "???", nil, []int{1000, 270}, 0, ""},
	{"3:5.0.3", 720, "012,013,014,015", "???", nil, []int{1000, 720}, 0, ""},
	// The same clue twice, and MaxClues times.
	{"2:5.0.1,5.0.1", 10, "00,11,22,33", "??", []int{0, 1}, []int{100, 10, 10}, 0, ""},
	{"2:0.0.1,4.2.1,4.2.1", 1, "10", "10", []int{1, 2}, []int{100, 2, 1, 1}, 0, "2:0.0.1,4.2.1"},
	{"2:4.2.1,0.0.1,4.2.1", 1, "10", "10", []int{0, 2}, []int{100, 50, 1, 1}, 1, "2:0.0.1,4.2.1"},
	{"2:0.0.2,0.0.2,0.0.2,0.0.2,0.0.2,0.0.2", 3, "02,11,20", "??", []int{0, 1, 2, 3, 4, 5}, []int{100, 3, 3, 3, 3, 3, 3}, 0, ""},
	// Clues that no number fits together.
	{"2:1.0.1,1.0.2", 0, "", "", nil, []int{100, 10, 0}, 0, ""},
	{"2:1.0.1,1.0.2,1.0.3", 0, "", "", []int{0, 1, 2}, []int{100, 10, 0, 0}, 0, ""},
	{"2:4.2.1,4.2.0", 0, "", "", nil, []int{100, 50, 0}, 0, ""},
	{"3:3.0.1,4.9.1,0.0.9", 0, "", "", []int{1}, []int{1000, 46, 2, 0}, 0, ""},
	{"3:1.0.5,1.2.0,4.7.1,4.9.1", 0, "", "", nil, []int{1000, 100, 10, 1, 0}, 0, ""},
	// Several clues that are as good.
	{"3:1.0.0,1.1.0,1.2.7", 1, "007", "007", nil, []int{1000, 100, 10, 1}, 0, "3:1.0.0,1.1.0,1.2.7"},
	{"2:4.5.1,3.0.1", 2, "40,60", "?0", nil, []int{100, 20, 2}, 0, ""},
	// The best clue is not the first one.
	{"2:4.9.1,4.8.1,4.7.0", 1, "72", "72", nil, []int{100, 12, 2, 1}, 0, "2:4.9.1,4.8.1,4.7.0"},
	{"2:1.0.0,0.0.0", 1, "00", "00", []int{0}, []int{100, 10, 1}, 1, "2:0.0.0"},
	{"2:1.0.1,1.1.2,0.0.3,5.0.2,3.0.0,4.6.1", 1, "12", "12", []int{0, 1, 2, 3, 4, 5}, []int{100, 10, 1, 1, 1, 1, 1}, 2, "2:1.1.2,0.0.3"},
	// Which clues are taken out depends on their order.
	{"2:2.0.0,0.0.10,5.0.1", 1, "55", "55", []int{0, 1, 2}, []int{100, 1, 1, 1}, 0, "2:0.0.10,5.0.1"},
	{"2:0.0.10,5.0.1,1.0.5,2.0.0", 1, "55", "55", []int{0, 1, 2, 3}, []int{100, 9, 1, 1, 1}, 3, "2:2.0.0"},
	{"2:0.0.1,4.2.1,5.0.2", 1, "10", "10", []int{2}, []int{100, 2, 1, 1}, 0, "2:0.0.1,4.2.1"},
	{"3:4.7.1,4.9.1,4.8.1,0.0.9,5.0.3,3.0.0", 1, "504", "504", []int{1, 3, 4, 5}, []int{1000, 143, 16, 2, 1, 1, 1}, 3, "3:4.7.1,4.8.1,0.0.9"},
	{"3:1.0.0,1.1.0,1.2.0,0.0.0,4.9.1,5.0.1", 1, "000", "000", []int{0, 1, 2, 3, 4, 5}, []int{1000, 100, 10, 1, 1, 1, 1}, 3, "3:0.0.0"},
}

func TestPuzzlesKnown(t *testing.T) {
	for _, known := range puzzlesKnown {
		p := puzzleOf(known.text)
		solutions, fine := impl.Solutions(p)
		count, counted := impl.CountSolutions(p)
		if !fine || !counted || count != known.count || len(solutions) != count || strings.Join(solutions[:min(count, 4)], ",") != known.first {
			t.Errorf("%s: %d solutions, first ones %q, %v %v", known.text, count, solutions[:min(count, 4)], fine, counted)
		}
		sure, ok := impl.SureDigits(p)
		if sure != known.sure || ok != (count > 0) {
			t.Errorf("SureDigits %s: %q %v", known.text, sure, ok)
		}
		if needless, ok := impl.NeedlessClues(p); !slices.Equal(needless, known.needless) || !ok {
			t.Errorf("NeedlessClues %s: %v %v", known.text, needless, ok)
		}
		if left, ok := impl.LeftByClues(p); !slices.Equal(left, known.left) || !ok {
			t.Errorf("LeftByClues %s: %v %v", known.text, left, ok)
		}
		if best, ok := impl.BestClue(p); best != max(known.best, 0) || ok != (known.best != noneBest) {
			t.Errorf("BestClue %s: %v %v", known.text, best, ok)
		}
		want := impl.Puzzle{}
		if known.harder != "" {
			want = puzzleOf(known.harder)
		}
		if harder, ok := impl.HarderPuzzle(p); !samePuzzle(harder, want) || ok != (known.harder != "") {
			t.Errorf("HarderPuzzle %s: %v %v", known.text, harder, ok)
		}
	}
}

// holdSolutions holds what a puzzle's solutions tell.
func holdSolutions(t *testing.T, p impl.Puzzle) {
	t.Helper()
	want := numbersFitting(p.Digits, p.Clues...)
	if !impl.IsPuzzle(p) {
		t.Errorf("IsPuzzle %v fails", p)
	}
	if got, ok := impl.Solutions(p); !slices.Equal(got, want) || !ok {
		t.Errorf("Solutions %v: %q %v, not %q", p, got, ok, want)
	}
	if got, ok := impl.CountSolutions(p); got != len(want) || !ok {
		t.Errorf("CountSolutions %v: %d %v, not %d", p, got, ok, len(want))
	}
	if got, ok := impl.IsSolved(p); got != (len(want) == 1) || !ok {
		t.Errorf("IsSolved %v: %v %v of %d", p, got, ok, len(want))
	}
	first, sure := "", ""
	if len(want) > 0 {
		first, sure = want[0], sureByHand(want)
	}
	if got, ok := impl.FirstSolution(p); got != first || ok != (len(want) > 0) {
		t.Errorf("FirstSolution %v: %q %v, not %q", p, got, ok, first)
	}
	if got, ok := impl.SureDigits(p); got != sure || ok != (len(want) > 0) {
		t.Errorf("SureDigits %v: %q %v, not %q", p, got, ok, sure)
	}
}

// holdClues holds what a puzzle's clues do, together and each one alone.
func holdClues(t *testing.T, p impl.Puzzle) {
	t.Helper()
	left := []int{len(hiddenNumbers[p.Digits])}
	best, fewest := 0, 10000
	for k, c := range p.Clues {
		left = append(left, len(numbersFitting(p.Digits, p.Clues[:k+1]...)))
		if alone := len(numbersFitting(p.Digits, c)); alone < fewest {
			best, fewest = k, alone
		}
	}
	if got, ok := impl.LeftByClues(p); !slices.Equal(got, left) || !ok {
		t.Errorf("LeftByClues %v: %v %v, not %v", p, got, ok, left)
	}
	if got, ok := impl.BestClue(p); got != best || ok != (len(p.Clues) > 0) {
		t.Errorf("BestClue %v: %d %v, not %d", p, got, ok, best)
	}
}

// somePuzzles returns puzzles without a clue, with each one clue, with each clue twice, with the same clue as often as can be, and those that are known.
func somePuzzles() []impl.Puzzle {
	var puzzles []impl.Puzzle
	for _, digits := range hiddenDigits {
		puzzles = append(puzzles, puzzleWith(digits))
		for _, c := range cluesOf(digits) {
			puzzles = append(puzzles, puzzleWith(digits, c), puzzleWith(digits, c, c), puzzleWith(digits, c, c, c, c, c, c))
		}
	}
	for _, known := range puzzlesKnown {
		puzzles = append(puzzles, puzzleOf(known.text))
	}
	return puzzles
}

// randomPuzzle returns a puzzle whose clues a number fits, or, as that seldom happens by chance, any clues.
func randomPuzzle(random *rand.Rand, digits int, clues int, fitting bool) impl.Puzzle {
	all := cluesOf(digits)
	p := puzzleWith(digits)
	hidden := random.Intn(len(hiddenNumbers[digits]))
	for len(p.Clues) < clues {
		c := all[random.Intn(len(all))]
		if !fitting || clueFits[digits][c][hidden] {
			p.Clues = append(p.Clues, c)
		}
	}
	return p
}

// randomPuzzles returns so many puzzles for each number of digits and of clues.
func randomPuzzles(seed int64, each int) []impl.Puzzle {
	random := rand.New(rand.NewSource(seed))
	var puzzles []impl.Puzzle
	for _, digits := range hiddenDigits {
		for clues := range impl.MaxClues + 1 {
			for i := range each {
				puzzles = append(puzzles, randomPuzzle(random, digits, clues, i%4 > 0))
			}
		}
	}
	return puzzles
}

func TestSolutions(t *testing.T) {
	for _, p := range append(somePuzzles(), randomPuzzles(91, 60)...) {
		holdSolutions(t, p)
		holdClues(t, p)
	}
}

// TestSolutionsOfTwo holds all puzzles of numbers of 2 digits with two clues.
func TestSolutionsOfTwo(t *testing.T) {
	solved := 0
	for _, first := range cluesOf(2) {
		for _, second := range cluesOf(2) {
			p := puzzleWith(2, first, second)
			holdSolutions(t, p)
			if is, _ := impl.IsSolved(p); is {
				solved++
			}
		}
	}
	if solved < 100 {
		t.Errorf("only %d of these puzzles are solved", solved)
	}
}

// TestSolutionsFit holds the promise: just the solutions fit all clues.
func TestSolutionsFit(t *testing.T) {
	for _, p := range randomPuzzles(92, 10) {
		solutions, _ := impl.Solutions(p)
		for _, number := range hiddenNumbers[p.Digits] {
			all := true
			for _, c := range p.Clues {
				fits, ok := impl.DoesFit(c, number)
				all = all && fits && ok
			}
			if all != slices.Contains(solutions, number) {
				t.Errorf("%v, %s: fits all %v", p, number, all)
			}
		}
	}
}

// TestSureByHand gives puzzles in which all places, some, and none are sure.
func TestSureByHand(t *testing.T) {
	for text, want := range map[string]string{
		"2:2.0.0": "55", "2:1.0.7,3.0.1": "7?", "2:3.0.1,1.1.0": "?0", "2:3.0.1": "??", "2:": "??", "3:": "???", "3:1.0.0": "0??", "3:1.1.4": "?4?", "3:1.2.9": "??9", "3:1.0.7,1.2.0": "7?0", "3:1.0.1,1.1.2,1.2.3": "123",
		"2:1.0.3,4.5.1": "3?", "2:1.0.3,4.2.1,4.5.1": "30", "3:1.1.1,0.0.1": "010", "2:0.0.17": "??", "2:1.1.5,1.0.6": "65", "3:0.0.27": "999", "3:1.0.5,3.0.1": "", "2:5.0.3": "", "2:1.0.1,1.0.2": "",
	} {
		if got, ok := impl.SureDigits(puzzleOf(text)); got != want || ok != (want != "") {
			t.Errorf("SureDigits %s: %q %v", text, got, ok)
		}
	}
}

// TestBestByHand gives several clues that are as good, in any place.
func TestBestByHand(t *testing.T) {
	for text, want := range map[string]int{
		"2:5.0.1": 0, "2:5.0.1,1.0.3": 0, "2:1.0.3,5.0.1": 0, "2:3.0.0,5.0.1,1.0.3": 1, "2:3.0.0,1.0.3,1.1.3,5.0.1": 1, "2:4.2.0,4.2.1,3.0.1,4.5.1": 2, "2:4.2.1,4.5.1,3.0.1": 1, "3:3.0.0,3.0.1": 1,
		"3:5.0.3,5.0.2,5.0.1,2.0.20,0.0.0,2.0.0": 3, "3:5.0.3,5.0.2,5.0.1,0.0.0,2.0.0,0.0.27": 3, "2:4.2.0,4.2.0,4.2.0,4.2.0,4.2.0,0.0.9": 5, "2:0.0.20,0.0.27": 0, "2:0.0.0,0.0.27": 1,
	} {
		if got, ok := impl.BestClue(puzzleOf(text)); got != want || !ok {
			t.Errorf("BestClue %s: %d %v, not %d", text, got, ok, want)
		}
	}
}
