package tests

import (
	"slices"
	"testing"

	"loop.example/g01350/impl"
)

// cluesWithout copies all clues but the one with an index.
func cluesWithout(clues []impl.Clue, k int) []impl.Clue {
	var others []impl.Clue
	for i, c := range clues {
		if i != k {
			others = append(others, c)
		}
	}
	return others
}

// holdNeedless holds the clues without which there are as many solutions.
func holdNeedless(t *testing.T, p impl.Puzzle) {
	t.Helper()
	var want []int
	for k := range p.Clues {
		if len(numbersFitting(p.Digits, cluesWithout(p.Clues, k)...)) == len(numbersFitting(p.Digits, p.Clues...)) {
			want = append(want, k)
		}
	}
	if got, ok := impl.NeedlessClues(p); !slices.Equal(got, want) || !ok {
		t.Errorf("NeedlessClues %v: %v %v, not %v", p, got, ok, want)
	}
}

func TestNeedlessClues(t *testing.T) {
	for _, p := range append(somePuzzles(), randomPuzzles(93, 60)...) {
		holdNeedless(t, p)
	}
}

func TestNeedlessByHand(t *testing.T) {
	for text, want := range map[string][]int{
		"2:": nil, "3:": nil, "2:5.0.1": nil, "2:5.0.3": nil,
		// A clue that is there twice, beside others that are needed.
		"2:4.2.1,0.0.1,4.2.1": {0, 2}, "2:0.0.1,4.2.1,4.2.1": {1, 2}, "2:4.2.1,4.2.1,0.0.1": {0, 1}, "2:4.2.1,4.2.1": {0, 1}, "3:2.0.0,2.0.0": {0, 1},
		// What another one tells too.
		"2:4.4.1,4.2.1": {1}, "2:4.2.1,4.4.1": {0}, "2:4.2.1,4.3.1,4.6.1": {0, 1, 2}, "2:4.6.1,4.3.1,1.0.4": {1}, "2:5.0.1,3.0.0": {1}, "2:3.0.1,5.0.2": {1}, "2:1.0.1,1.1.1,5.0.1": {0, 1, 2}, "2:1.0.1,1.1.1": nil,
		// None, and all.
		"2:0.0.1,4.2.1": nil, "3:1.0.1,1.1.2,1.2.3": nil, "2:2.0.0,0.0.10,5.0.1": {0, 1, 2}, "2:1.0.1,1.0.2,1.0.3": {0, 1, 2}, "2:4.2.1,4.2.0": nil, "2:4.2.1,4.2.0,4.2.0": {1, 2}, "2:4.2.1,4.2.0,5.0.3": {0, 1, 2},
		"2:0.0.2,0.0.2,0.0.2,0.0.2,0.0.2,0.0.2": {0, 1, 2, 3, 4, 5},
	} {
		if got, ok := impl.NeedlessClues(puzzleOf(text)); !slices.Equal(got, want) || !ok {
			t.Errorf("NeedlessClues %s: %v %v, not %v", text, got, ok, want)
		}
	}
}

// holdDropped drops each clue, and puts it behind the others again.
func holdDropped(t *testing.T, p impl.Puzzle) {
	t.Helper()
	for k, c := range p.Clues {
		want := puzzleWith(p.Digits, cluesWithout(p.Clues, k)...)
		less, ok := impl.DropClue(p, k)
		if !samePuzzle(less, want) || !ok {
			t.Errorf("DropClue %v, %d: %v %v", p, k, less, ok)
		}
		more, ok := impl.AddClue(less, c)
		if !samePuzzle(more, puzzleWith(p.Digits, append(want.Clues, c)...)) || !ok {
			t.Errorf("AddClue %v, %v: %v %v", less, c, more, ok)
		}
	}
	for _, k := range []int{-1, len(p.Clues), len(p.Clues) + 1} {
		if less, ok := impl.DropClue(p, k); !samePuzzle(less, impl.Puzzle{}) || ok {
			t.Errorf("DropClue %v, %d: %v %v", p, k, less, ok)
		}
	}
}

func TestDropClue(t *testing.T) {
	for _, p := range append(somePuzzles(), randomPuzzles(94, 20)...) {
		holdDropped(t, p)
	}
}

// TestAddClue puts any clue behind puzzles with none, some and just MaxClues clues.
func TestAddClue(t *testing.T) {
	for _, p := range randomPuzzles(95, 3) {
		for _, c := range cluesOf(p.Digits) {
			want, fine := puzzleWith(p.Digits, append(slices.Clone(p.Clues), c)...), len(p.Clues) < impl.MaxClues
			if !fine {
				want = impl.Puzzle{}
			}
			if more, ok := impl.AddClue(p, c); !samePuzzle(more, want) || ok != fine {
				t.Errorf("AddClue %v, %v: %v %v", p, c, more, ok)
			}
		}
	}
}

func TestDropAndAddByHand(t *testing.T) {
	for _, c := range []struct {
		text string
		k    int
		less string
	}{
		{"2:0.0.1", 0, "2:"}, {"2:0.0.1,4.2.1", 0, "2:4.2.1"}, {"2:0.0.1,4.2.1", 1, "2:0.0.1"}, {"2:5.0.1,5.0.1", 0, "2:5.0.1"}, {"3:1.2.7,5.0.3,1.2.7", 1, "3:1.2.7,1.2.7"},
		{"3:1.0.0,1.1.0,1.2.0,0.0.0,4.9.1,5.0.1", 0, "3:1.1.0,1.2.0,0.0.0,4.9.1,5.0.1"}, {"3:1.0.0,1.1.0,1.2.0,0.0.0,4.9.1,5.0.1", 5, "3:1.0.0,1.1.0,1.2.0,0.0.0,4.9.1"}, {"3:1.0.0,1.1.0,1.2.0,0.0.0,4.9.1,5.0.1", 3, "3:1.0.0,1.1.0,1.2.0,4.9.1,5.0.1"},
	} {
		if less, ok := impl.DropClue(puzzleOf(c.text), c.k); !samePuzzle(less, puzzleOf(c.less)) || !ok {
			t.Errorf("DropClue %s, %d: %v %v", c.text, c.k, less, ok)
		}
	}
	for _, c := range []struct{ text, clue, more string }{
		{"2:", "0.0.1", "2:0.0.1"}, {"2:0.0.1", "4.2.1", "2:0.0.1,4.2.1"}, {"2:5.0.1", "5.0.1", "2:5.0.1,5.0.1"}, {"3:", "1.2.0", "3:1.2.0"}, {"2:", "5.0.3", "2:5.0.3"},
		{"2:0.0.2,0.0.2,0.0.2,0.0.2,0.0.2", "3.0.1", "2:0.0.2,0.0.2,0.0.2,0.0.2,0.0.2,3.0.1"},
	} {
		if more, ok := impl.AddClue(puzzleOf(c.text), clueOf(c.clue)); !samePuzzle(more, puzzleOf(c.more)) || !ok {
			t.Errorf("AddClue %s, %s: %v %v", c.text, c.clue, more, ok)
		}
	}
	// A clue of a place that numbers of 2 digits do not have, and one that is none.
	for _, clue := range []string{"1.2.0", "1.2.9", "0.1.0", "6.0.1", "4.1.0", "5.0.4"} {
		if more, ok := impl.AddClue(puzzleOf("2:0.0.1"), clueOf(clue)); !samePuzzle(more, impl.Puzzle{}) || ok {
			t.Errorf("AddClue %s: %v %v", clue, more, ok)
		}
	}
}

// harderByHand asks for each clue, from the first one on, whether those that stay and those that follow are enough.
func harderByHand(p impl.Puzzle) impl.Puzzle {
	var stay []impl.Clue
	for k, c := range p.Clues {
		if len(numbersFitting(p.Digits, slices.Concat(stay, p.Clues[k+1:])...)) != 1 {
			stay = append(stay, c)
		}
	}
	return puzzleWith(p.Digits, stay...)
}

// holdHarder holds a harder puzzle, and what the document promises of it: the same number solves it. No clue of it is needless.
func holdHarder(t *testing.T, p impl.Puzzle) {
	t.Helper()
	harder, ok := impl.HarderPuzzle(p)
	solutions := numbersFitting(p.Digits, p.Clues...)
	if len(solutions) != 1 {
		if !samePuzzle(harder, impl.Puzzle{}) || ok {
			t.Errorf("HarderPuzzle %v, of %d solutions: %v %v", p, len(solutions), harder, ok)
		}
		return
	}
	if !samePuzzle(harder, harderByHand(p)) || !ok {
		t.Errorf("HarderPuzzle %v: %v %v", p, harder, ok)
	}
	if same, ok := impl.Solutions(harder); !slices.Equal(same, solutions) || !ok {
		t.Errorf("Solutions %v: %q %v, not %q", harder, same, ok, solutions)
	}
	if needless, ok := impl.NeedlessClues(harder); len(needless) > 0 || !ok {
		t.Errorf("NeedlessClues %v: %v %v", harder, needless, ok)
	}
	if again, ok := impl.HarderPuzzle(harder); !samePuzzle(again, harder) || !ok {
		t.Errorf("HarderPuzzle again, %v: %v %v", harder, again, ok)
	}
}

// TestHarderPuzzle also counts how many clues were taken out: none, some, and all but one.
func TestHarderPuzzle(t *testing.T) {
	taken, alone := map[int]int{}, 0
	for _, p := range append(somePuzzles(), randomPuzzles(96, 100)...) {
		holdHarder(t, p)
		if harder, ok := impl.HarderPuzzle(p); ok {
			taken[len(p.Clues)-len(harder.Clues)]++
			if len(harder.Clues) == 1 && len(p.Clues) > 2 {
				alone++
			}
		}
	}
	if taken[0] < 20 || taken[1] < 20 || taken[2] < 20 || taken[3] < 20 || alone < 5 {
		t.Error(taken, alone)
	}
}

// TestHarderOfTwo holds all puzzles of numbers of 2 digits with two clues.
func TestHarderOfTwo(t *testing.T) {
	for _, first := range cluesOf(2) {
		for _, second := range cluesOf(2) {
			holdHarder(t, puzzleWith(2, first, second))
		}
	}
}
