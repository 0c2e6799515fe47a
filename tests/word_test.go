package tests

import (
	"slices"
	"strings"
	"testing"

	"loop.example/g01350/impl"
)

// dictionaries have one word, just MaxDictionary ones, words that begin others, and words with the same keys, or no two of them.
var dictionaries = [][]string{
	{"a"},
	{"in"},
	{"zzzzzzzzzz"},
	{"act", "at", "bat", "cat", "in"},
	{"act", "bat", "cat"},
	{"a", "aa", "aaa", "aaaa"},
	{"a", "b", "c"},
	{"a", "aa", "ab", "ac", "b", "ba", "bb", "bc", "c", "ca", "cb", "cc"},
	{"p", "pp", "q", "qp", "qq", "qr", "r", "rp", "rs", "s", "sp", "ss"},
	{"aaaaaaaaaa", "aaaaaaaaab", "bbbbbbbbbb", "cccccccccc", "ccccccccd"},
	{"good", "home", "hood", "hoof", "in", "me", "no", "of", "ohm", "on", "one", "oned"},
	{"ad", "ada", "be", "bed", "d", "da", "f", "fa"},
	{"adgjmptwad", "b", "beh", "d", "g", "j", "kn", "m", "p", "s", "v", "z"},
	{"dam", "day", "fan", "fax"},
}

var exampleWords = []string{"act", "at", "bat", "cat", "in"}

func keysFor(word string) string {
	keys := ""
	for i := range len(word) {
		keys += string(keyFor(word[i]))
	}
	return keys
}

// wordsWhere returns all words of a list of which something is told.
func wordsWhere(list []string, is func(word string) bool) []string {
	var words []string
	for _, word := range list {
		if is(word) {
			words = append(words, word)
		}
	}
	return words
}

func wordsWith(list []string, keys string) []string {
	return wordsWhere(list, func(word string) bool { return keysFor(word) == keys })
}

func wordsFrom(list []string, keys string) []string {
	return wordsWhere(list, func(word string) bool { return strings.HasPrefix(keysFor(word), keys) })
}

// keysNear returns all beginnings of the keys of words, each also with one digit more, and some keys besides.
func keysNear(list []string) []string {
	all := []string{"2", "9", "28", "22846", strings.Repeat("2", impl.MaxSplitKeys), strings.Repeat("9", impl.MaxSplitKeys)}
	for _, word := range list {
		keys := keysFor(word)
		for count := 1; count <= len(keys); count++ {
			all = append(all, keys[:count])
			for _, digit := range "23456789" {
				all = append(all, keys[:count]+string(digit))
			}
		}
	}
	return all
}

func TestIsDictionary(t *testing.T) {
	for _, list := range dictionaries {
		if !impl.IsDictionary(list) {
			t.Errorf("%q is a dictionary", list)
		}
	}
	for _, list := range notDictionaries {
		if impl.IsDictionary(list) {
			t.Errorf("%q is no dictionary", list)
		}
	}
}

func TestMakeDictionary(t *testing.T) {
	for _, list := range dictionaries {
		backward := slices.Clone(list)
		slices.Reverse(backward)
		turned := slices.Concat(list[len(list)/2:], list[:len(list)/2])
		for _, words := range [][]string{list, backward, turned} {
			given := slices.Clone(words)
			if got, ok := impl.MakeDictionary(words); !slices.Equal(got, list) || !ok {
				t.Errorf("MakeDictionary %q: %q %v", words, got, ok)
			}
			if !slices.Equal(words, given) {
				t.Errorf("MakeDictionary changed %q to %q", given, words)
			}
		}
	}
	more := append(slices.Clone(twelveWords), "zz")
	for _, words := range [][]string{
		nil, {}, {""}, {"b", ""}, {"b", "A"}, {"b", "a,c"}, {"b", "aaaaaaaaaaa"}, {"2"}, {"a", "é"},
		{"", ""}, {"a", "", "a"}, {"a", "A", "a"}, {"A", "A"}, {"a", "2", "2"}, {"aaaaaaaaaaa", "aaaaaaaaaaa"},
		more, append(slices.Clone(more), "A"), append(slices.Clone(twelveWords), "a"), slices.Repeat([]string{"a"}, 13), slices.Repeat([]string{"a"}, 10000),
	} {
		if got, ok := impl.MakeDictionary(words); len(got) != 0 || ok {
			t.Errorf("MakeDictionary of %d words, %.60q: %q %v", len(words), words, got, ok)
		}
	}
}

// TestMakeDictionaryOfRepeatedWords gives words again, up to the limit of all that are given: next to each other, and behind all.
func TestMakeDictionaryOfRepeatedWords(t *testing.T) {
	for _, list := range dictionaries {
		for times := 2; times*len(list) <= impl.MaxDictionary; times++ {
			holdRepeated(t, slices.Repeat(list, times), list)
			backward := slices.Repeat(list, times)
			slices.Sort(backward)
			slices.Reverse(backward)
			holdRepeated(t, backward, list)
		}
		for _, word := range list {
			for at := range list {
				if len(list) < impl.MaxDictionary {
					holdRepeated(t, slices.Insert(slices.Clone(list), at, word), list)
				}
			}
		}
	}
	holdRepeated(t, []string{"cat", "act", "cat"}, []string{"act", "cat"})
	holdRepeated(t, append(slices.Clone(twelveWords[:11]), "a"), twelveWords[:11])
	holdRepeated(t, slices.Repeat([]string{"in"}, impl.MaxDictionary), []string{"in"})
}

func holdRepeated(t *testing.T, words []string, list []string) {
	t.Helper()
	room := append(slices.Clone(words), "room", "more")
	before := slices.Clone(room)
	got, ok := impl.MakeDictionary(room[:len(words)])
	if !slices.Equal(got, list) || !ok {
		t.Errorf("MakeDictionary %q: %q %v", words, got, ok)
	}
	if !slices.Equal(room, before) {
		t.Errorf("MakeDictionary changed %q to %q", before, room)
	}
}

func TestWordsOfKeys(t *testing.T) {
	for _, list := range dictionaries {
		for _, keys := range keysNear(list) {
			if got, ok := impl.WordsFor(list, keys); !slices.Equal(got, wordsWith(list, keys)) || !ok {
				t.Fatalf("WordsFor %q, %s: %q %v", list, keys, got, ok)
			}
			if got, ok := impl.WordsBeginning(list, keys); !slices.Equal(got, wordsFrom(list, keys)) || !ok {
				t.Fatalf("WordsBeginning %q, %s: %q %v", list, keys, got, ok)
			}
		}
	}
}

func TestWordsOfKeysByHand(t *testing.T) {
	if got, ok := impl.WordsFor(exampleWords, "228"); !slices.Equal(got, []string{"act", "bat", "cat"}) || !ok {
		t.Error("WordsFor 228", got, ok)
	}
	if got, ok := impl.WordsFor(exampleWords, "22"); len(got) != 0 || !ok {
		t.Error("WordsFor 22", got, ok)
	}
	if got, ok := impl.WordsBeginning(exampleWords, "22"); !slices.Equal(got, []string{"act", "bat", "cat"}) || !ok {
		t.Error("WordsBeginning 22", got, ok)
	}
	if got, ok := impl.WordsBeginning(exampleWords, "2"); !slices.Equal(got, []string{"act", "at", "bat", "cat"}) || !ok {
		t.Error("WordsBeginning 2", got, ok)
	}
	if got, ok := impl.WordsBeginning(exampleWords, "2282"); len(got) != 0 || !ok {
		t.Error("WordsBeginning 2282", got, ok)
	}
}

// sharedIn finds the lists of words with the same keys pair by pair.
func sharedIn(list []string) [][]string {
	var shared [][]string
	for i, word := range list {
		words := wordsWith(list, keysFor(word))
		if len(words) > 1 && slices.Index(list, words[0]) == i {
			shared = append(shared, words)
		}
	}
	return shared
}

func TestSharedKeys(t *testing.T) {
	for _, list := range dictionaries {
		if got, ok := impl.SharedKeys(list); !slices.EqualFunc(got, sharedIn(list), slices.Equal[[]string]) || !ok {
			t.Errorf("SharedKeys %q: %q %v", list, got, ok)
		}
	}
	byHand := map[string]string{
		"act,at,bat,cat,in":            "act,bat,cat",
		"a":                            "",
		"a,aa,d":                       "",
		"a,d":                          "",
		"ad,b,be,c,cf":                 "ad,be,cf b,c",
		"a,d,ga,gb,m,n":                "ga,gb m,n",
		"adg,ae,beh,c,da,dg,ee,ff,g,h": "adg,beh ee,ff g,h",
	}
	for text, want := range byHand {
		got, ok := impl.SharedKeys(strings.Split(text, ","))
		var lists []string
		for _, words := range got {
			lists = append(lists, strings.Join(words, ","))
		}
		if strings.Join(lists, " ") != want || !ok {
			t.Errorf("SharedKeys %s: %q %v", text, got, ok)
		}
	}
}

func TestSureAfter(t *testing.T) {
	for _, list := range dictionaries {
		for _, word := range list {
			want := 0
			for count := len(word); count > 0 && slices.Equal(wordsFrom(list, keysFor(word)[:count]), []string{word}); count-- {
				want = count
			}
			if got, ok := impl.SureAfter(list, word); got != want || ok != (want > 0) {
				t.Errorf("SureAfter %q, %s: %d %v", list, word, got, ok)
			}
		}
	}
	byHand := []struct {
		list []string
		word string
		want int
	}{
		{exampleWords, "in", 1}, {exampleWords, "at", 2}, {exampleWords, "act", 0}, {exampleWords, "cat", 0},
		{[]string{"cat"}, "cat", 1}, {[]string{"a"}, "a", 1}, {[]string{"a", "ab"}, "a", 0}, {[]string{"a", "ab"}, "ab", 2},
		{[]string{"wwwwwwwww", "wwwwwwwwwx", "xwwwwwwwwx"}, "xwwwwwwwwx", 0},
		{[]string{"mmmmmmmmmm", "mmmmmmmmmt"}, "mmmmmmmmmt", 10},
	}
	for _, c := range byHand {
		if got, ok := impl.SureAfter(c.list, c.word); got != c.want || ok != (c.want > 0) {
			t.Errorf("SureAfter %q, %s: %d %v", c.list, c.word, got, ok)
		}
	}
}

func TestPressesWithNext(t *testing.T) {
	for _, list := range dictionaries {
		first, most := "", 0
		for _, word := range list {
			want := len(word) + slices.Index(wordsWith(list, keysFor(word)), word)
			if want > most {
				first, most = word, want
			}
			if got, ok := impl.PressesWithNext(list, word); got != want || !ok {
				t.Errorf("PressesWithNext %q, %s: %d %v", list, word, got, ok)
			}
		}
		if word, presses, ok := impl.MostPresses(list); word != first || presses != most || !ok {
			t.Errorf("MostPresses %q: %s %d %v", list, word, presses, ok)
		}
	}
	presses := map[string]int{"act": 3, "at": 2, "bat": 4, "cat": 5, "in": 2}
	for word, want := range presses {
		if got, ok := impl.PressesWithNext(exampleWords, word); got != want || !ok {
			t.Errorf("PressesWithNext %s: %d %v", word, got, ok)
		}
	}
	if word, most, ok := impl.MostPresses(exampleWords); word != "cat" || most != 5 || !ok {
		t.Error("MostPresses", word, most, ok)
	}
	// The words bad, c and goo are pressed three times each.
	if word, most, ok := impl.MostPresses([]string{"a", "b", "bad", "c", "goo"}); word != "bad" || most != 3 || !ok {
		t.Error("MostPresses of equals", word, most, ok)
	}
}

func TestNextKeysOf(t *testing.T) {
	for _, list := range dictionaries {
		for _, keys := range append(keysNear(list), "") {
			want := ""
			for _, digit := range "23456789" {
				if len(wordsFrom(list, keys+string(digit))) > 0 {
					want += string(digit)
				}
			}
			if got, ok := impl.NextKeysOf(list, keys); got != want || !ok {
				t.Fatalf("NextKeysOf %q, %q: %q %v", list, keys, got, ok)
			}
		}
	}
	byHand := map[string]string{"": "24", "2": "28", "22": "8", "228": "", "28": "", "4": "6", "46": "", "3": "", strings.Repeat("2", 20): ""}
	for keys, want := range byHand {
		if got, ok := impl.NextKeysOf(exampleWords, keys); got != want || !ok {
			t.Errorf("NextKeysOf %q: %q %v", keys, got, ok)
		}
	}
}

func TestAddWord(t *testing.T) {
	words := []string{"a", "aa", "am", "cat", "mmmmmmmmmm", "zz", "zzzzzzzzzz"}
	for _, list := range dictionaries {
		for _, word := range words {
			want := append(slices.Clone(list), word)
			slices.Sort(want)
			fine := !slices.Contains(list, word) && len(list) < impl.MaxDictionary
			if !fine {
				want = nil
			}
			if got, ok := impl.AddWord(list, word); !slices.Equal(got, want) || ok != fine {
				t.Errorf("AddWord %q, %s: %q %v", list, word, got, ok)
			}
		}
	}
	eleven := twelveWords[:11]
	if got, ok := impl.AddWord(eleven, twelveWords[11]); !slices.Equal(got, twelveWords) || !ok {
		t.Error("AddWord up to the limit", got, ok)
	}
}

func TestDropWord(t *testing.T) {
	for _, list := range dictionaries {
		for _, word := range list {
			want := wordsWhere(list, func(other string) bool { return other != word })
			if got, ok := impl.DropWord(list, word); !slices.Equal(got, want) || ok != (len(list) > 1) {
				t.Errorf("DropWord %q, %s: %q %v", list, word, got, ok)
			}
		}
	}
}

func TestKeysOfAll(t *testing.T) {
	for _, list := range dictionaries {
		var want []string
		for _, word := range list {
			if !slices.Contains(want, keysFor(word)) {
				want = append(want, keysFor(word))
			}
		}
		slices.Sort(want)
		if got, ok := impl.KeysOfAll(list); !slices.Equal(got, want) || !ok {
			t.Errorf("KeysOfAll %q: %q %v", list, got, ok)
		}
	}
	if got, ok := impl.KeysOfAll(exampleWords); !slices.Equal(got, []string{"228", "28", "46"}) || !ok {
		t.Error("KeysOfAll", got, ok)
	}
	if got, ok := impl.KeysOfAll([]string{"at", "b", "bat", "in"}); !slices.Equal(got, []string{"2", "228", "28", "46"}) || !ok {
		t.Error("KeysOfAll in another order than the words", got, ok)
	}
}

func TestDictionaryText(t *testing.T) {
	for _, list := range dictionaries {
		text, ok := impl.DictionaryText(list)
		if text != strings.Join(list, ",") || !ok {
			t.Errorf("DictionaryText %q: %q %v", list, text, ok)
		}
		if got, ok := impl.ParseDictionary(text); !slices.Equal(got, list) || !ok {
			t.Errorf("ParseDictionary %q: %q %v", text, got, ok)
		}
	}
	if text, ok := impl.DictionaryText(exampleWords); text != "act,at,bat,cat,in" || !ok {
		t.Error("DictionaryText", text, ok)
	}
	for _, text := range []string{
		"", ",", "a,", ",a", "a,,b", "a b", "a, b", " a", "a ", "b,a", "a,a", "A", "a,B", "2", "a;b", "aaaaaaaaaaa", "a\n", "a,b\x00", "é",
		strings.Join(twelveWords, ",") + ",zz", strings.Join(twelveWords, ",") + ",", "a,b" + strings.Repeat(",", 100000), strings.Repeat("a", 100000),
	} {
		if got, ok := impl.ParseDictionary(text); len(got) != 0 || ok {
			t.Errorf("ParseDictionary %.60q: %q %v", text, got, ok)
		}
	}
}
