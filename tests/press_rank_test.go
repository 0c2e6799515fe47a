package tests

import (
	"math"
	"strings"
	"testing"

	"loop.example/g01350/impl"
)

func TestCountSameKeys(t *testing.T) {
	counts := map[string]int{
		"2": 3, "7": 4, "8": 3, "9": 4, "364": 27, "79": 16, "23456789": 11664,
		strings.Repeat("2", 31): 617673396283947, strings.Repeat("7", 24): 281474976710656,
		strings.Repeat("9", 24) + "8": 844424930131968,
	}
	for keys, count := range counts {
		if got, ok := impl.CountSameKeys(keys); got != count || !ok {
			t.Errorf("CountSameKeys %s: %d %v", keys, got, ok)
		}
	}
	// 3 to the power of 40 is taken modulo 2 to the power of 64 if it overflows, 4 to the power of 32 becomes 0.
	many := []string{
		strings.Repeat("2", 32), strings.Repeat("7", 25), strings.Repeat("9", 24) + "88",
		strings.Repeat("2", 40), strings.Repeat("7", 32), strings.Repeat("7", 33), strings.Repeat("9", 40), strings.Repeat("79", 16) + "2",
	}
	for _, keys := range many {
		if got, ok := impl.CountSameKeys(keys); got != 0 || ok {
			t.Errorf("CountSameKeys %s: %d %v", keys, got, ok)
		}
	}
}

func TestNoKeys(t *testing.T) {
	for _, keys := range notKeys {
		if got, ok := impl.CountSameKeys(keys); got != 0 || ok {
			t.Errorf("CountSameKeys %q: %d %v", keys, got, ok)
		}
		if got, ok := impl.FirstWord(keys); got != "" || ok {
			t.Errorf("FirstWord %q: %q %v", keys, got, ok)
		}
		if got, ok := impl.WordOfRank(keys, 0); got != "" || ok {
			t.Errorf("WordOfRank %q: %q %v", keys, got, ok)
		}
	}
}

func TestFirstWord(t *testing.T) {
	words := map[string]string{
		"2": "a", "9": "w", "364": "dmg", "23456789": "adgjmptw",
		strings.Repeat("7", 40): strings.Repeat("p", 40),
	}
	for keys, word := range words {
		if got, ok := impl.FirstWord(keys); got != word || !ok {
			t.Errorf("FirstWord %s: %q %v", keys, got, ok)
		}
	}
}

// TestRanks holds ranks against the words of all keys of few letters, which wordsOf gives in their order.
func TestRanks(t *testing.T) {
	for letters := 1; letters <= 3; letters++ {
		seen := map[string]int{}
		first := map[string]string{}
		for _, word := range wordsOf(abc, letters) {
			keys, _ := impl.KeysOf(word)
			rank := seen[keys]
			if rank == 0 {
				first[keys] = word
			}
			seen[keys]++
			if got, ok := impl.RankOfWord(word); got != rank || !ok {
				t.Fatalf("RankOfWord %s: %d %v", word, got, ok)
			}
			if got, ok := impl.WordOfRank(keys, rank); got != word || !ok {
				t.Fatalf("WordOfRank %s, %d: %q %v", keys, rank, got, ok)
			}
		}
		for keys, count := range seen {
			if got, ok := impl.CountSameKeys(keys); got != count || !ok {
				t.Fatalf("CountSameKeys %s: %d %v", keys, got, ok)
			}
			if got, ok := impl.FirstWord(keys); got != first[keys] || !ok {
				t.Fatalf("FirstWord %s: %q %v", keys, got, ok)
			}
			if got, ok := impl.WordOfRank(keys, count); got != "" || ok {
				t.Fatalf("WordOfRank %s, %d: %q %v", keys, count, got, ok)
			}
		}
	}
}

func TestRankLimits(t *testing.T) {
	most := strings.Repeat("9", impl.MaxLetters)
	word, ok := impl.WordOfRank(most, impl.MaxSame)
	if !ok || !impl.IsWord(word) {
		t.Fatal("WordOfRank MaxSame", word, ok)
	}
	if rank, ok := impl.RankOfWord(word); rank != impl.MaxSame || !ok {
		t.Errorf("RankOfWord %s: %d %v", word, rank, ok)
	}
	// The rank MaxSame is divided by 4, so that the last letter has a next one on its key.
	if word[len(word)-1] != 'w' {
		t.Fatal("the last letter of the rank MaxSame", word)
	}
	next := word[:len(word)-1] + "x"
	if rank, ok := impl.RankOfWord(next); rank != 0 || ok {
		t.Errorf("RankOfWord above MaxSame: %d %v", rank, ok)
	}
	for _, rank := range []int{-1, impl.MaxSame + 1, math.MinInt, math.MaxInt} {
		if got, ok := impl.WordOfRank(most, rank); got != "" || ok {
			t.Errorf("WordOfRank %d: %q %v", rank, got, ok)
		}
		if got, ok := impl.WordOfRank("364", rank); got != "" || ok {
			t.Errorf("WordOfRank 364, %d: %q %v", rank, got, ok)
		}
	}
	if got, ok := impl.WordOfRank("364", impl.MaxSame); got != "" || ok {
		t.Errorf("WordOfRank 364, MaxSame: %q %v", got, ok)
	}
}

// TestRankOfManySame has keys of more than MaxSame words, of which only the rank is bounded.
func TestRankOfManySame(t *testing.T) {
	ranks := map[string]int{
		strings.Repeat("a", 40): 0, strings.Repeat("w", 39) + "z": 3, strings.Repeat("p", 38) + "qp": 4,
		strings.Repeat("p", 16) + strings.Repeat("s", 24): 281474976710655,
		strings.Repeat("a", 9) + strings.Repeat("c", 31):  617673396283946,
	}
	for word, rank := range ranks {
		if got, ok := impl.RankOfWord(word); got != rank || !ok {
			t.Errorf("RankOfWord %s: %d %v", word, got, ok)
		}
		keys, _ := impl.KeysOf(word)
		if got, ok := impl.WordOfRank(keys, rank); got != word || !ok {
			t.Errorf("WordOfRank %s, %d: %q %v", keys, rank, got, ok)
		}
	}
	for _, word := range []string{
		limitWord, strings.Repeat("c", 40), strings.Repeat("z", 32), strings.Repeat("p", 15) + strings.Repeat("s", 25),
		"x" + strings.Repeat("w", 39), strings.Repeat("p", 7) + "q" + strings.Repeat("p", 32),
	} {
		if got, ok := impl.RankOfWord(word); got != 0 || ok {
			t.Errorf("RankOfWord %s: %d %v", word, got, ok)
		}
	}
}

// TestLongestPressed holds the first words of so many presses against all short words.
func TestLongestPressed(t *testing.T) {
	for letters := 1; letters <= 3; letters++ {
		first := map[int]string{}
		for _, word := range wordsOf(abc, letters) {
			presses, _ := impl.CountPresses(word)
			if first[presses] == "" {
				first[presses] = word
			}
		}
		for presses := -2; presses <= 4*letters+2; presses++ {
			got, ok := impl.LongestPressed(presses, letters)
			if got != first[presses] || ok != (first[presses] != "") {
				t.Errorf("LongestPressed %d, %d: %q %v", presses, letters, got, ok)
			}
		}
	}
}

func TestLongestPressedLimits(t *testing.T) {
	words := map[int]string{
		40: strings.Repeat("a", 40), 41: strings.Repeat("a", 39) + "b", 159: "c" + strings.Repeat("s", 39), 160: limitWord,
	}
	for presses, word := range words {
		if got, ok := impl.LongestPressed(presses, impl.MaxLetters); got != word || !ok {
			t.Errorf("LongestPressed %d, 40: %q %v", presses, got, ok)
		}
	}
	bad := [][2]int{
		{39, 40}, {161, 40}, {41, 41}, {100, 41}, {0, 0}, {1, 0}, {-1, -1}, {-4, -1}, {0, 1}, {-1, 1},
		{math.MaxInt, 40}, {math.MinInt, 40}, {1, math.MaxInt}, {1, math.MinInt}, {math.MinInt, math.MinInt}, {math.MaxInt, math.MaxInt},
		{0, math.MinInt}, {1 << 62, 1 << 62},
	}
	for _, c := range bad {
		if got, ok := impl.LongestPressed(c[0], c[1]); got != "" || ok {
			t.Errorf("LongestPressed %v: %q %v", c, got, ok)
		}
	}
}
