package tests

import (
	"math"
	"slices"
	"strings"
	"testing"

	"loop.example/g01350/impl"
)

func typosOf(word string, typed string) int { return countTypos(typoSearch{}.first(word, typed)) }

// typedFor returns texts near the words of a dictionary, and far from them.
func typedFor(list []string) []string {
	all := slices.Clone(typedSamples)
	for _, word := range list {
		all = append(all, word, word[1:], word+"x", "x"+word[1:], word+list[0])
	}
	return all
}

func holdNearest(t *testing.T, list []string, typed string) {
	t.Helper()
	typos := map[string]int{}
	least := math.MaxInt
	for _, word := range list {
		typos[word] = typosOf(word, typed)
		least = min(least, typos[word])
	}
	within := func(far int) []string {
		return wordsWhere(list, func(word string) bool { return typos[word] <= far })
	}
	if words, far, ok := impl.NearestWords(list, typed); !slices.Equal(words, within(least)) || far != least || !ok {
		t.Fatalf("NearestWords %q, %q: %q %d %v, not %q %d", list, typed, words, far, ok, within(least), least)
	}
	for far := 0; far <= impl.MaxTyped; far++ {
		if words, ok := impl.WordsWithin(list, typed, far); !slices.Equal(words, within(far)) || !ok {
			t.Fatalf("WordsWithin %q, %q, %d: %q %v, not %q", list, typed, far, words, ok, within(far))
		}
	}
}

func TestNearestWords(t *testing.T) {
	for _, list := range dictionaries {
		for _, typed := range typedFor(list) {
			holdNearest(t, list, typed)
		}
	}
}

func TestNearestWordsByHand(t *testing.T) {
	for _, c := range []struct {
		list  []string
		typed string
		words []string
		far   int
	}{
		{exampleWords, "cat", []string{"cat"}, 0}, {exampleWords, "rat", []string{"at", "bat", "cat"}, 1}, {exampleWords, "", []string{"at", "in"}, 2}, {exampleWords, "xyz", exampleWords, 3},
		{[]string{"a"}, "", []string{"a"}, 1}, {[]string{"a"}, strings.Repeat("z", 20), []string{"a"}, 20}, {[]string{"zzzzzzzzzz"}, oneLetter, []string{"zzzzzzzzzz"}, 20},
		{[]string{"a", "b"}, oneLetter, []string{"a"}, 19}, {twelveWords, "z", []string{"a", "b", "c", "d", "e", "f", "g", "h", "i"}, 1},
	} {
		if words, far, ok := impl.NearestWords(c.list, c.typed); !slices.Equal(words, c.words) || far != c.far || !ok {
			t.Errorf("NearestWords %q, %q: %q %d %v", c.list, c.typed, words, far, ok)
		}
	}
	for _, c := range []struct {
		typed string
		far   int
		words []string
	}{
		{"cat", 0, []string{"cat"}}, {"cat", 1, []string{"at", "bat", "cat"}}, {"cat", 2, []string{"act", "at", "bat", "cat"}}, {"cat", 3, exampleWords}, {"cat", impl.MaxTyped, exampleWords},
		{"dog", 0, nil}, {"dog", 2, nil}, {"", 1, nil}, {"", 2, []string{"at", "in"}}, {strings.Repeat("z", 20), 19, nil}, {strings.Repeat("z", 20), 20, exampleWords},
	} {
		if words, ok := impl.WordsWithin(exampleWords, c.typed, c.far); !slices.Equal(words, c.words) || !ok {
			t.Errorf("WordsWithin %q, %d: %q %v", c.typed, c.far, words, ok)
		}
	}
}

func TestFarOutOfBounds(t *testing.T) {
	for _, list := range dictionaries {
		for _, far := range []int{-1, impl.MaxTyped + 1, -20, 100, math.MinInt, math.MaxInt} {
			for _, typed := range []string{"", "a", list[0]} {
				if words, ok := impl.WordsWithin(list, typed, far); len(words) != 0 || ok {
					t.Errorf("WordsWithin %q, %q, %d: %q %v", list, typed, far, words, ok)
				}
			}
		}
	}
}

// wrongIn returns all texts with another letter at one place that is pressed with the same key.
func wrongIn(word string) []string {
	var wrong []string
	for i := range len(word) {
		for j := range len(abc) {
			if abc[j] != word[i] && keyFor(abc[j]) == keyFor(word[i]) {
				wrong = append(wrong, word[:i]+abc[j:j+1]+word[i+1:])
			}
		}
	}
	slices.Sort(wrong)
	return wrong
}

func TestWrongOnKey(t *testing.T) {
	samples := slices.Concat(wordsOf(abc, 1), wordsOf(abc, 2), []string{"dog", "cab", "letter", "abcdefghij", "zzzzzzzzzz", "qrstuvwxyz", "ssssssssss", "aaaaaaaaaa"})
	for _, word := range samples {
		if got, ok := impl.WrongOnKey(word); !slices.Equal(got, wrongIn(word)) || !ok {
			t.Errorf("WrongOnKey %q: %q %v, not %q", word, got, ok, wrongIn(word))
		}
	}
	for word, wrong := range map[string][]string{
		"at": {"au", "av", "bt", "ct"}, "b": {"a", "c"}, "s": {"p", "q", "r"}, "w": {"x", "y", "z"}, "aa": {"ab", "ac", "ba", "ca"}, "cb": {"ab", "bb", "ca", "cc"},
	} {
		if got, ok := impl.WrongOnKey(word); !slices.Equal(got, wrong) || !ok {
			t.Errorf("WrongOnKey %q: %q %v", word, got, ok)
		}
	}
	if got, ok := impl.WrongOnKey("pppppppppp"); len(got) != 30 || !ok {
		t.Errorf("WrongOnKey of 10 letters: %q %v", got, ok)
	}
	for _, word := range append([]string{"aaaaaaaaaaa", "ppppppppppp", oneLetter, manyTyped, abc, limitWord}, notWords...) {
		if got, ok := impl.WrongOnKey(word); len(got) != 0 || ok {
			t.Errorf("WrongOnKey %.60q: %q %v", word, got, ok)
		}
	}
}

// swapsIn returns all other texts of which two neighbours are those of a text exchanged.
func swapsIn(text string) []string {
	swaps := map[string]bool{}
	for i := 1; i < len(text); i++ {
		letters := strings.Split(text, "")
		slices.Reverse(letters[i-1 : i+1])
		swaps[strings.Join(letters, "")] = true
	}
	delete(swaps, text)
	var list []string
	for swap := range swaps {
		list = append(list, swap)
	}
	slices.Sort(list)
	return list
}

func TestSwapsOf(t *testing.T) {
	for _, text := range append(textsOf("abc", 6), typedSamples...) {
		if got, ok := impl.SwapsOf(text); !slices.Equal(got, swapsIn(text)) || !ok {
			t.Errorf("SwapsOf %q: %q %v, not %q", text, got, ok, swapsIn(text))
		}
	}
	for text, swaps := range map[string][]string{
		"aab": {"aba"}, "": nil, "a": nil, "aaa": nil, oneLetter: nil, "ab": {"ba"}, "ba": {"ab"}, "aba": {"aab", "baa"}, "cab": {"acb", "cba"}, "abc": {"acb", "bac"},
	} {
		if got, ok := impl.SwapsOf(text); !slices.Equal(got, swaps) || !ok {
			t.Errorf("SwapsOf %q: %q %v", text, got, ok)
		}
	}
	if got, ok := impl.SwapsOf(typedLimit); len(got) != impl.MaxTyped-1 || !ok {
		t.Errorf("SwapsOf %q: %q %v", typedLimit, got, ok)
	}
}
