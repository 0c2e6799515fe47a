package tests

import (
	"slices"
	"strings"
	"testing"

	"loop.example/g01350/impl"
)

// splitsOf returns all splits in their order: words that come first are taken first.
func splitsOf(list []string, keys string) [][]string {
	if keys == "" {
		return [][]string{nil}
	}
	var splits [][]string
	for _, word := range list {
		if rest, ok := strings.CutPrefix(keys, keysFor(word)); ok {
			for _, split := range splitsOf(list, rest) {
				splits = append(splits, slices.Concat([]string{word}, split))
			}
		}
	}
	return splits
}

func firstFewest(splits [][]string) []string {
	var first []string
	for _, split := range splits {
		if first == nil || len(split) < len(first) {
			first = split
		}
	}
	return first
}

// longestSplit follows from each number of keys that have a split all words that may come next.
func longestSplit(list []string, keys string) int {
	reached := []int{0}
	for at := 0; at < len(reached); at++ {
		for _, word := range list {
			next := reached[at] + len(word)
			if strings.HasPrefix(keys[reached[at]:], keysFor(word)) && !slices.Contains(reached, next) {
				reached = append(reached, next)
			}
		}
	}
	return slices.Max(reached)
}

func holdSplits(t *testing.T, list []string, keys string) {
	t.Helper()
	splits := splitsOf(list, keys)
	var first []string
	if len(splits) > 0 {
		first = splits[0]
	}
	fewest := firstFewest(splits)
	if got, ok := impl.CountSplits(list, keys); got != len(splits) || !ok {
		t.Fatalf("CountSplits %q, %s: %d %v", list, keys, got, ok)
	}
	if got, ok := impl.FirstSplit(list, keys); !slices.Equal(got, first) || ok != (first != nil) {
		t.Fatalf("FirstSplit %q, %s: %q %v", list, keys, got, ok)
	}
	if got, ok := impl.FewestWords(list, keys); got != len(fewest) || ok != (first != nil) {
		t.Fatalf("FewestWords %q, %s: %d %v", list, keys, got, ok)
	}
	if got, ok := impl.FirstFewest(list, keys); !slices.Equal(got, fewest) || ok != (first != nil) {
		t.Fatalf("FirstFewest %q, %s: %q %v", list, keys, got, ok)
	}
	if got, ok := impl.LongestSplit(list, keys); got != longestSplit(list, keys) || !ok {
		t.Fatalf("LongestSplit %q, %s: %d %v", list, keys, got, ok)
	}
}

// digitsOf returns the first three digits of the keys of words, and one that most of them do not have.
func digitsOf(list []string) string {
	digits := []byte(keysFor(strings.Join(list, "")))
	slices.Sort(digits)
	digits = slices.Compact(digits)
	return string(digits[:min(3, len(digits))]) + "9"
}

func TestSplitsOfShortKeys(t *testing.T) {
	for _, list := range dictionaries {
		for count := 1; count <= 5; count++ {
			for _, keys := range wordsOf(digitsOf(list), count) {
				holdSplits(t, list, keys)
			}
		}
	}
}

// TestSplitsOfWords takes the keys of up to three words, one behind the other, with and without a digit more.
func TestSplitsOfWords(t *testing.T) {
	for _, list := range dictionaries {
		for _, a := range list {
			for _, b := range append([]string{""}, list...) {
				for _, c := range append([]string{"", "d"}, list[:min(4, len(list))]...) {
					keys := keysFor(a + b + c)
					// Keys of many splits are too much to list.
					if len(keys) <= impl.MaxSplitKeys && len(splitsOf(list, keys[:min(len(keys), 3)])) < 20 {
						holdSplits(t, list, keys)
					}
				}
			}
		}
	}
}

func TestSplitsByHand(t *testing.T) {
	if got, ok := impl.CountSplits(exampleWords, "22846"); got != 3 || !ok {
		t.Error("CountSplits", got, ok)
	}
	if got, ok := impl.FirstSplit(exampleWords, "22846"); !slices.Equal(got, []string{"act", "in"}) || !ok {
		t.Error("FirstSplit", got, ok)
	}
	if got, ok := impl.FewestWords(exampleWords, "22846"); got != 2 || !ok {
		t.Error("FewestWords", got, ok)
	}
	if got, ok := impl.LongestSplit(exampleWords, "2829"); got != 2 || !ok {
		t.Error("LongestSplit", got, ok)
	}
	if got, ok := impl.LongestSplit(exampleWords, "9228"); got != 0 || !ok {
		t.Error("LongestSplit of none", got, ok)
	}
	// The first split takes a alone; the first one of fewest words takes ab before ca.
	list := []string{"a", "ab", "b", "bc", "ca"}
	if got, ok := impl.FirstSplit(list, "2222"); !slices.Equal(got, []string{"a", "a", "a", "a"}) || !ok {
		t.Error("FirstSplit of shortest words", got, ok)
	}
	if got, ok := impl.FirstFewest(list, "2222"); !slices.Equal(got, []string{"ab", "ab"}) || !ok {
		t.Error("FirstFewest", got, ok)
	}
	if got, ok := impl.FirstFewest(list, "222"); !slices.Equal(got, []string{"a", "ab"}) || !ok {
		t.Error("FirstFewest of an odd number", got, ok)
	}
	// With ad it goes on only by another ad, with a by dad: a comes first, however long it is.
	if got, ok := impl.FirstSplit([]string{"a", "ad", "dad"}, "2323"); !slices.Equal(got, []string{"a", "dad"}) || !ok {
		t.Error("FirstSplit of a word that begins another one", got, ok)
	}
	if got, ok := impl.FirstSplit([]string{"ad", "b", "dad"}, "2323"); !slices.Equal(got, []string{"ad", "ad"}) || !ok {
		t.Error("FirstSplit of the first word", got, ok)
	}
	if got, ok := impl.FirstSplit([]string{"ad", "b", "dae"}, "2323"); !slices.Equal(got, []string{"ad", "ad"}) || !ok {
		t.Error("FirstSplit of words one of which ends it as well", got, ok)
	}
	if got, ok := impl.FirstSplit([]string{"ad", "b", "dag"}, "2324"); !slices.Equal(got, []string{"b", "dag"}) || !ok {
		t.Error("FirstSplit that must take the later word", got, ok)
	}
}

// TestSplitsOfMostKeys counts by sums what is too much to list: words of one and of two letters, all on one key.
func TestSplitsOfMostKeys(t *testing.T) {
	cases := []struct {
		list     []string
		digit    string
		one, two int
	}{
		{dictionaries[7], "2", 3, 9},
		{dictionaries[8], "7", 4, 8},
	}
	for _, c := range cases {
		before, count := 1, c.one
		for long := 2; long <= impl.MaxSplitKeys; long++ {
			before, count = count, c.one*count+c.two*before
			keys := strings.Repeat(c.digit, long)
			if got, ok := impl.CountSplits(c.list, keys); got != count || !ok {
				t.Errorf("CountSplits %q, %s: %d %v", c.list, keys, got, ok)
			}
			if got, ok := impl.FewestWords(c.list, keys); got != (long+1)/2 || !ok {
				t.Errorf("FewestWords %q, %s: %d %v", c.list, keys, got, ok)
			}
			if got, ok := impl.FirstSplit(c.list, keys); !slices.Equal(got, slices.Repeat(c.list[:1], long)) || !ok {
				t.Errorf("FirstSplit %q, %s: %q %v", c.list, keys, got, ok)
			}
			if got, ok := impl.LongestSplit(c.list, keys); got != long || !ok {
				t.Errorf("LongestSplit %q, %s: %d %v", c.list, keys, got, ok)
			}
		}
	}
	most := strings.Repeat("2", impl.MaxSplitKeys)
	if got, ok := impl.FewestWords([]string{"a"}, most); got != impl.MaxSplitKeys || !ok {
		t.Error("FewestWords of MaxSplitKeys words", got, ok)
	}
	if got, ok := impl.FirstFewest([]string{"a", "aaaaaaaaaa"}, most); !slices.Equal(got, []string{"aaaaaaaaaa", "aaaaaaaaaa"}) || !ok {
		t.Error("FirstFewest of words of MaxListed letters", got, ok)
	}
	if got, ok := impl.LongestSplit([]string{"a"}, most[1:]+"3"); got != impl.MaxSplitKeys-1 || !ok {
		t.Error("LongestSplit of all but one", got, ok)
	}
	if got, ok := impl.CountSplits([]string{"a"}, most[1:]+"3"); got != 0 || !ok {
		t.Error("CountSplits of none", got, ok)
	}
}
