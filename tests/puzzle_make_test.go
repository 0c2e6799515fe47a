package tests

import (
	"testing"

	"loop.example/g01350/impl"
)

func TestMadeByHand(t *testing.T) {
	for _, c := range []struct {
		number string
		clues  int
		seed   int
		text   string
	}{
		// Behind 0 the numbers are 1531, 4725, 5009, 7948, 2739, 4964, 6390, 2613, 2603, 33, 5 and 2816.
		{"10", 6, 0, "2:1.1.0,5.0.2,3.0.0,0.0.1,5.0.2,5.0.2"}, {"00", 6, 0, "2:1.1.0,5.0.1,3.0.0,0.0.0,5.0.1,5.0.1"}, {"007", 6, 0, "3:1.0.0,5.0.2,3.0.0,0.0.7,5.0.2,5.0.2"}, {"123", 6, 0, "3:1.0.1,5.0.3,3.0.0,0.0.6,5.0.3,5.0.3"},
		{"55", 6, 1, "2:0.0.10,2.0.0,1.1.5,3.0.0,4.5.1,3.0.0"}, {"16", 6, 2, "2:5.0.2,0.0.7,5.0.2,5.0.2,3.0.1,1.0.1"}, {"40", 1, 3, "2:4.6.0"}, {"72", 2, 42, "2:2.0.5,4.7.0"}, {"999", 6, 77, "3:4.8.0,5.0.1,3.0.0,3.0.0,5.0.1,1.0.9"},
		{"049", 3, 500, "3:5.0.3,3.0.1,5.0.3"}, {"160", 6, 1000, "3:4.7.0,1.0.1,2.0.8,2.0.8,4.9.0,3.0.1"}, {"640", 6, 4321, "3:3.0.0,1.0.6,2.0.6,0.0.10,0.0.10,0.0.10"},
		{"99", 6, 9999, "2:2.0.2,3.0.0,4.7.0,3.0.0,1.1.9,1.0.9"}, {"555", 6, 9999, "3:2.0.0,3.0.0,4.7.0,3.0.0,1.2.5,1.0.5"}, {"10", 1, 9999, "2:2.0.6"},
		{"10", 0, 0, "2:"}, {"10", 0, 9999, "2:"}, {"007", 0, 0, "3:"}, {"007", 0, 9999, "3:"},
	} {
		p, ok := impl.MakePuzzle(c.number, c.clues, c.seed)
		if !samePuzzle(p, puzzleOf(c.text)) || !ok {
			t.Errorf("MakePuzzle %s, %d, %d: %v %v, not %s", c.number, c.clues, c.seed, p, ok, c.text)
		}
	}
}

// madeNumbers are, for each seed, the numbers by which a puzzle is made.
func madeNumbers(seed int) []int {
	var numbers []int
	for range 2 * impl.MaxClues {
		seed = (seed*257 + 1531) % 10007
		numbers = append(numbers, seed)
	}
	return numbers
}

// madeByHand finds each clue among all: it has the kind and, where there are several, the A that are told, and the number fits it.
func madeByHand(t *testing.T, number string, clues int, seed int) impl.Puzzle {
	p := puzzleWith(len(number))
	made := madeNumbers(seed)
	for i := range clues {
		kind, y := made[2*i]%6, made[2*i+1]
		a := []int{0, y % len(number), 0, 0, y%8 + 2, 0}[kind]
		for _, c := range cluesOf(len(number)) {
			if c.Kind == kind && c.A == a && fitsByHand(c, number) {
				p.Clues = append(p.Clues, c)
			}
		}
		if len(p.Clues) != i+1 {
			t.Fatalf("%s fits %v, not %d clues", number, p.Clues, i+1)
		}
	}
	return p
}

func holdMade(t *testing.T, number string, clues int, seed int) {
	t.Helper()
	p, ok := impl.MakePuzzle(number, clues, seed)
	if !samePuzzle(p, madeByHand(t, number, clues, seed)) || !ok || !impl.IsPuzzle(p) {
		t.Errorf("MakePuzzle %s, %d, %d: %v %v", number, clues, seed, p, ok)
	}
	for _, c := range p.Clues {
		if fits, ok := impl.DoesFit(c, number); !fits || !ok {
			t.Errorf("MakePuzzle %s, %d, %d: %v %v of %v", number, clues, seed, fits, ok, c)
		}
	}
}

// TestMadeOfSeeds makes puzzles of all seeds, and of each kind of clues at each place among them.
func TestMadeOfSeeds(t *testing.T) {
	var kinds [impl.MaxClues][6]int
	for seed := range 10000 {
		numbers := hiddenNumbers[hiddenDigits[seed%2]]
		number := numbers[seed*7%len(numbers)]
		holdMade(t, number, impl.MaxClues, seed)
		p, _ := impl.MakePuzzle(number, impl.MaxClues, seed)
		for i, c := range p.Clues {
			kinds[i][c.Kind]++
		}
	}
	for i, of := range kinds {
		for kind, times := range of {
			if times < 1000 {
				t.Errorf("%d puzzles have the kind %d at %d", times, kind, i)
			}
		}
	}
}

// TestMadeOfNumbers makes puzzles of all hidden numbers and of any number of clues.
func TestMadeOfNumbers(t *testing.T) {
	for _, digits := range hiddenDigits {
		for i, number := range hiddenNumbers[digits] {
			for clues := range impl.MaxClues + 1 {
				holdMade(t, number, clues, i*11%10000)
			}
			holdMade(t, number, impl.MaxClues, 0)
			holdMade(t, number, impl.MaxClues, 9999)
		}
	}
}

// TestMadeBegins holds that with fewer clues a puzzle is the beginning of one with more.
func TestMadeBegins(t *testing.T) {
	for seed := 0; seed < 10000; seed += 77 {
		all, _ := impl.MakePuzzle("640", impl.MaxClues, seed)
		for clues := range impl.MaxClues + 1 {
			p, ok := impl.MakePuzzle("640", clues, seed)
			if !samePuzzle(p, puzzleWith(3, all.Clues[:clues]...)) || !ok {
				t.Errorf("MakePuzzle 640, %d, %d: %v %v", clues, seed, p, ok)
			}
		}
	}
}
