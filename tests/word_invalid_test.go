package tests

import (
	"slices"
	"strings"
	"testing"

	"loop.example/g01350/impl"
)

var twelveWords = []string{"a", "aa", "ab", "b", "c", "d", "e", "f", "g", "h", "i", "mmmmmmmmmm"}

var notDictionaries = [][]string{
	nil, {}, {""}, {"a", ""}, {"", "a"}, {"A"}, {"a", "B"}, {"a", "b "}, {"a,b"}, {"2"}, {"a", "é"}, {"a", "b\x00"}, {"\xff"},
	{"b", "a"}, {"a", "a"}, {"a", "b", "b"}, {"a", "c", "b"}, {"ab", "a"}, {"a", "b", "a"},
	{"aaaaaaaaaaa"}, {"a", "bbbbbbbbbbb"}, {strings.Repeat("a", impl.MaxLetters)}, {strings.Repeat("a", 100000)},
	append(slices.Clone(twelveWords), "z"), slices.Repeat([]string{"a"}, 1000),
}

// notSplitKeys are no keys of the chapter; of these only the empty ones may begin words.
var notSplitKeys = append(slices.Clone(notKeys), strings.Repeat("2", impl.MaxSplitKeys+1), strings.Repeat("46", 20))

// withKeys are calls with a dictionary and keys, which tell whether all other results are zero, and the last one.
var withKeys = []struct {
	name string
	call func(list []string, keys string) (bool, bool)
}{
	{"WordsFor", func(list []string, keys string) (bool, bool) {
		got, ok := impl.WordsFor(list, keys)
		return len(got) == 0, ok
	}},
	{"WordsBeginning", func(list []string, keys string) (bool, bool) {
		got, ok := impl.WordsBeginning(list, keys)
		return len(got) == 0, ok
	}},
	{"FirstSplit", func(list []string, keys string) (bool, bool) {
		got, ok := impl.FirstSplit(list, keys)
		return len(got) == 0, ok
	}},
	{"CountSplits", func(list []string, keys string) (bool, bool) {
		got, ok := impl.CountSplits(list, keys)
		return got == 0, ok
	}},
	{"FewestWords", func(list []string, keys string) (bool, bool) {
		got, ok := impl.FewestWords(list, keys)
		return got == 0, ok
	}},
	{"FirstFewest", func(list []string, keys string) (bool, bool) {
		got, ok := impl.FirstFewest(list, keys)
		return len(got) == 0, ok
	}},
	{"LongestSplit", func(list []string, keys string) (bool, bool) {
		got, ok := impl.LongestSplit(list, keys)
		return got == 0, ok
	}},
	{"NextKeysOf", func(list []string, keys string) (bool, bool) {
		got, ok := impl.NextKeysOf(list, keys)
		return got == "", ok
	}},
}

// withWord are such calls with a dictionary and a word.
var withWord = []struct {
	name string
	call func(list []string, word string) (bool, bool)
}{
	{"SureAfter", func(list []string, word string) (bool, bool) {
		got, ok := impl.SureAfter(list, word)
		return got == 0, ok
	}},
	{"PressesWithNext", func(list []string, word string) (bool, bool) {
		got, ok := impl.PressesWithNext(list, word)
		return got == 0, ok
	}},
	{"AddWord", func(list []string, word string) (bool, bool) {
		got, ok := impl.AddWord(list, word)
		return len(got) == 0, ok
	}},
	{"DropWord", func(list []string, word string) (bool, bool) {
		got, ok := impl.DropWord(list, word)
		return len(got) == 0, ok
	}},
}

// withList are such calls with a dictionary alone.
var withList = []struct {
	name string
	call func(list []string) (bool, bool)
}{
	{"SharedKeys", func(list []string) (bool, bool) {
		got, ok := impl.SharedKeys(list)
		return len(got) == 0, ok
	}},
	{"MostPresses", func(list []string) (bool, bool) {
		word, most, ok := impl.MostPresses(list)
		return word == "" && most == 0, ok
	}},
	{"KeysOfAll", func(list []string) (bool, bool) {
		got, ok := impl.KeysOfAll(list)
		return len(got) == 0, ok
	}},
	{"DictionaryText", func(list []string) (bool, bool) {
		got, ok := impl.DictionaryText(list)
		return got == "", ok
	}},
}

func TestNoDictionaries(t *testing.T) {
	for _, list := range notDictionaries {
		for _, f := range withKeys {
			for _, keys := range []string{"2", "28", "", "x"} {
				if zero, ok := f.call(list, keys); !zero || ok {
					t.Errorf("%s of %.60q, %q: zero %v, %v", f.name, list, keys, zero, ok)
				}
			}
		}
		for _, f := range withWord {
			for _, word := range append([]string{"a", "b", "zz", "", "A"}, list[:min(3, len(list))]...) {
				if zero, ok := f.call(list, word); !zero || ok {
					t.Errorf("%s of %.60q, %.20q: zero %v, %v", f.name, list, word, zero, ok)
				}
			}
		}
		for _, f := range withList {
			if zero, ok := f.call(list); !zero || ok {
				t.Errorf("%s of %.60q: zero %v, %v", f.name, list, zero, ok)
			}
		}
	}
}

func TestNoSplitKeys(t *testing.T) {
	for _, list := range dictionaries {
		for _, keys := range notSplitKeys {
			for _, f := range withKeys {
				if keys == "" && f.name == "NextKeysOf" {
					continue
				}
				if zero, ok := f.call(list, keys); !zero || ok {
					t.Errorf("%s of %q, %.60q: zero %v, %v", f.name, list, keys, zero, ok)
				}
			}
		}
	}
}

func TestNoWordsOfDictionary(t *testing.T) {
	for _, list := range dictionaries {
		others := []string{"xyzxyz", "catt", "cacb", "zzzzzzzzz", strings.Repeat("z", impl.MaxListed+1)}
		for _, word := range append(others, notWords...) {
			for _, f := range withWord {
				if f.name == "AddWord" && impl.IsWord(word) && len(word) <= impl.MaxListed {
					continue
				}
				if zero, ok := f.call(list, word); !zero || ok {
					t.Errorf("%s of %q, %.60q: zero %v, %v", f.name, list, word, zero, ok)
				}
			}
		}
	}
}

// TestDictionariesStay calls all functions with lists that have room behind them, and then holds lists and room against what they were.
func TestDictionariesStay(t *testing.T) {
	for _, list := range dictionaries {
		room := append(slices.Clone(list), "room", "more", "rest")
		given := room[:len(list)]
		for _, f := range withKeys {
			f.call(given, keysFor(list[0]))
		}
		for _, f := range withWord {
			f.call(given, list[0])
			f.call(given, "b")
			f.call(given, "zz")
		}
		for _, f := range withList {
			f.call(given)
		}
		impl.IsDictionary(given)
		impl.MakeDictionary(given)
		if !slices.Equal(room, append(slices.Clone(list), "room", "more", "rest")) {
			t.Errorf("%q became %q", list, room)
		}
	}
}

// TestWordsAreNew writes into results: neither arguments nor other results may change by this.
func TestWordsAreNew(t *testing.T) {
	list := []string{"a", "b", "c", "d", "e", "in"}
	given := slices.Clone(list)
	lists := func() [][]string {
		made, _ := impl.MakeDictionary(given)
		words, _ := impl.WordsFor(given, "2")
		beginning, _ := impl.WordsBeginning(given, "2")
		split, _ := impl.FirstSplit(given, "2346")
		fewest, _ := impl.FirstFewest(given, "2346")
		added, _ := impl.AddWord(given, "on")
		dropped, _ := impl.DropWord(given, "in")
		first, _ := impl.DropWord(given, "a")
		keys, _ := impl.KeysOfAll(given)
		parsed, _ := impl.ParseDictionary("a,b")
		shared, _ := impl.SharedKeys(given)
		return slices.Concat([][]string{made, words, beginning, split, fewest, added, dropped, first, keys, parsed}, shared)
	}
	before := lists()
	results := lists()
	for k, result := range results {
		if len(result) == 0 {
			t.Fatalf("the list %d is empty", k)
		}
		for i := range result[:cap(result)] {
			result[:cap(result)][i] = "new"
		}
		for later := k + 1; later < len(results); later++ {
			if !slices.Equal(results[later], before[later]) {
				t.Errorf("the list %d shares memory with the list %d", k, later)
			}
		}
	}
	if !slices.Equal(given, list) {
		t.Errorf("the dictionary became %q", given)
	}
	if after := lists(); !slices.EqualFunc(after, before, slices.Equal[[]string]) {
		t.Errorf("later results are %q", after)
	}
}
