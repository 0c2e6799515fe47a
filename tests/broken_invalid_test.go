package tests

import (
	"slices"
	"testing"

	"loop.example/g01350/impl"
)

// brokenCall is a call with one argument to try, which tells whether all other results are zero, and the last one.
type brokenCall struct {
	name string
	call func(text string) (bool, bool)
}

func callTexts(name string, call func(text string) (string, bool)) brokenCall {
	return brokenCall{name, func(text string) (bool, bool) {
		got, ok := call(text)
		return got == "", ok
	}}
}

func callNumbers(name string, call func(text string) (int, bool)) brokenCall {
	return brokenCall{name, func(text string) (bool, bool) {
		got, ok := call(text)
		return got == 0, ok
	}}
}

func callBools(name string, call func(text string) (bool, bool)) brokenCall {
	return brokenCall{name, func(text string) (bool, bool) {
		got, ok := call(text)
		return !got, ok
	}}
}

func callLists(name string, call func(text string) ([]string, bool)) brokenCall {
	return brokenCall{name, func(text string) (bool, bool) {
		got, ok := call(text)
		return len(got) == 0, ok
	}}
}

// withTyped are such calls with a text, once for each of their arguments that is one.
var withTyped = []brokenCall{
	callTexts("ShownText", func(text string) (string, bool) { return impl.ShownText(text, "e", "t") }),
	callBools("CanShow", func(text string) (bool, bool) { return impl.CanShow(text, "") }),
	callBools("CanShow itself", func(text string) (bool, bool) { return impl.CanShow(text, text) }),
	callTexts("DeadFor", func(text string) (string, bool) { return impl.DeadFor(text, "") }),
	callTexts("DeadFor itself", func(text string) (string, bool) { return impl.DeadFor(text, text) }),
	callTexts("StuckFor itself", func(text string) (string, bool) { return impl.StuckFor(text, text) }),
	callTexts("LettersOf", impl.LettersOf),
	callNumbers("CountShown", impl.CountShown),
	callNumbers("TypoDistance from", func(text string) (int, bool) { return impl.TypoDistance(text, "cat") }),
	callNumbers("TypoDistance to", func(text string) (int, bool) { return impl.TypoDistance("cat", text) }),
	callNumbers("TypoDistance itself", func(text string) (int, bool) { return impl.TypoDistance(text, text) }),
	callTexts("FirstTypos from", func(text string) (string, bool) { return impl.FirstTypos(text, "cat") }),
	callTexts("FirstTypos to", func(text string) (string, bool) { return impl.FirstTypos("cat", text) }),
	callNumbers("CommonLength of", func(text string) (int, bool) { return impl.CommonLength(text, "cat") }),
	callNumbers("CommonLength with", func(text string) (int, bool) { return impl.CommonLength("cat", text) }),
	callTexts("FirstCommon of", func(text string) (string, bool) { return impl.FirstCommon(text, "cat") }),
	callTexts("FirstCommon with", func(text string) (string, bool) { return impl.FirstCommon("cat", text) }),
	callTexts("FirstCommon itself", func(text string) (string, bool) { return impl.FirstCommon(text, text) }),
	{"NearestWords", func(text string) (bool, bool) {
		words, far, ok := impl.NearestWords(exampleWords, text)
		return len(words) == 0 && far == 0, ok
	}},
	callLists("WordsWithin", func(text string) ([]string, bool) { return impl.WordsWithin(exampleWords, text, impl.MaxTyped) }),
	callLists("SwapsOf", impl.SwapsOf),
	callBools("IsOneTypo from", func(text string) (bool, bool) { return impl.IsOneTypo(text, "cat") }),
	callBools("IsOneTypo to", func(text string) (bool, bool) { return impl.IsOneTypo("cat", text) }),
	callBools("IsOneTypo itself", func(text string) (bool, bool) { return impl.IsOneTypo(text, text) }),
	{"CountRuns", func(text string) (bool, bool) {
		runs, ok := impl.CountRuns(text)
		return len(runs) == 0, ok
	}},
	callTexts("CollapseText", impl.CollapseText),
}

// withShown are such calls with a text that is shown, of which only CanShow succeeds whatever letters it has.
var withShown = []brokenCall{
	callBools("CanShow", func(text string) (bool, bool) { return impl.CanShow("cat", text) }),
	callBools("CanShow of no letters", func(text string) (bool, bool) { return impl.CanShow("", text) }),
	callTexts("DeadFor", func(text string) (string, bool) { return impl.DeadFor("cat", text) }),
	callTexts("DeadFor of no letters", func(text string) (string, bool) { return impl.DeadFor("", text) }),
	callTexts("StuckFor", func(text string) (string, bool) { return impl.StuckFor("cat", text) }),
	callTexts("StuckFor of no letters", func(text string) (string, bool) { return impl.StuckFor("", text) }),
	callTexts("UnstuckText", func(text string) (string, bool) { return impl.UnstuckText(text, "") }),
	callTexts("UnstuckText with stuck letters", func(text string) (string, bool) { return impl.UnstuckText(text, manyTyped) }),
}

// withLetters are such calls with letters.
var withLetters = []brokenCall{
	callTexts("ShownText dead", func(text string) (string, bool) { return impl.ShownText("letter", text, "") }),
	callTexts("ShownText stuck", func(text string) (string, bool) { return impl.ShownText("letter", "", text) }),
	callTexts("ShownText of no letters, dead", func(text string) (string, bool) { return impl.ShownText("", text, "") }),
	callTexts("ShownText of no letters, stuck", func(text string) (string, bool) { return impl.ShownText("", "", text) }),
	callTexts("UnstuckText", func(text string) (string, bool) { return impl.UnstuckText("aab", text) }),
	callTexts("UnstuckText of no letters", func(text string) (string, bool) { return impl.UnstuckText("", text) }),
}

func holdInvalid(t *testing.T, calls []brokenCall, invalid []string) {
	t.Helper()
	for _, f := range calls {
		for _, text := range invalid {
			if zero, ok := f.call(text); !zero || ok {
				t.Errorf("%s of %.60q: zero %v, %v", f.name, text, zero, ok)
			}
		}
	}
}

func TestNotTyped(t *testing.T) {
	holdInvalid(t, withTyped, notTyped)
	for _, f := range withTyped {
		for _, text := range typedSamples {
			if _, ok := f.call(text); !ok {
				t.Errorf("%s of %q fails", f.name, text)
			}
		}
	}
}

func TestNotShown(t *testing.T) {
	holdInvalid(t, withShown, notShown)
	for _, f := range withShown[:2] {
		for _, shown := range append([]string{"ccat", shownLimit, shownLimit[1:], abc}, typedSamples...) {
			if _, ok := f.call(shown); !ok {
				t.Errorf("%s of %q fails", f.name, shown)
			}
		}
	}
}

func TestNotIncreasing(t *testing.T) {
	holdInvalid(t, withLetters, notIncreasing)
	for _, f := range withLetters {
		// Letters are a text, so that there may be just MaxTyped of them.
		for _, letters := range []string{"", "a", "z", "az", "acz", "aceg", "elrt", abc[26-impl.MaxTyped:]} {
			if _, ok := f.call(letters); !ok {
				t.Errorf("%s of %q fails", f.name, letters)
			}
		}
	}
}

func TestNothingToApply(t *testing.T) {
	for _, text := range notTyped {
		for _, typos := range []string{"", "k", "m", "r", "l", "kk"} {
			if got, ok := impl.ApplyTypos(text, typos, ""); got != "" || ok {
				t.Errorf("ApplyTypos %.60q, %s: %q %v", text, typos, got, ok)
			}
			if got, ok := impl.ApplyTypos("a", typos, text); got != "" || ok {
				t.Errorf("ApplyTypos a, %s, %.60q: %q %v", typos, text, got, ok)
			}
		}
	}
	// Signs that would use up just what is there do not help letters that are none.
	for _, c := range [][3]string{
		{"A", "k", ""}, {"A", "l", ""}, {"a", "r", "A"}, {"", "m", " "}, {"é", "kk", ""}, {"é", "ll", ""}, {"", "mm", "é"},
		{oneLetter + "a", "lllllllllllllllllllll", ""}, {oneLetter + "a", "lkkkkkkkkkkkkkkkkkkkk", ""}, {oneLetter, "lrrrrrrrrrrrrrrrrrrr" + "mm", oneLetter + "a"},
	} {
		if got, ok := impl.ApplyTypos(c[0], c[1], c[2]); got != "" || ok {
			t.Errorf("ApplyTypos %q: %q %v", c, got, ok)
		}
	}
}

func TestNoDictionariesToType(t *testing.T) {
	for _, list := range notDictionaries {
		for _, typed := range []string{"", "a", "cat", "A", oneLetter + "a"} {
			if words, far, ok := impl.NearestWords(list, typed); len(words) != 0 || far != 0 || ok {
				t.Errorf("NearestWords %.60q, %q: %q %d %v", list, typed, words, far, ok)
			}
			for _, far := range []int{0, 1, impl.MaxTyped} {
				if words, ok := impl.WordsWithin(list, typed, far); len(words) != 0 || ok {
					t.Errorf("WordsWithin %.60q, %q, %d: %q %v", list, typed, far, words, ok)
				}
			}
		}
	}
}

// TestTypedDictionariesStay gives lists that have room behind them, and then holds lists and room against what they were.
func TestTypedDictionariesStay(t *testing.T) {
	for _, list := range append(slices.Clone(dictionaries), notDictionaries...) {
		room := append(slices.Clone(list), "room", "more", "rest")
		given := room[:len(list)]
		for _, typed := range []string{"", "cat", oneLetter, "A"} {
			impl.NearestWords(given, typed)
			impl.WordsWithin(given, typed, impl.MaxTyped)
			impl.WordsWithin(given, typed, -1)
		}
		if !slices.Equal(room, append(slices.Clone(list), "room", "more", "rest")) {
			t.Errorf("%.60q became %.60q", list, room)
		}
	}
}

// TestTypedIsNew writes into results: neither arguments nor later results may change by this.
func TestTypedIsNew(t *testing.T) {
	given := slices.Clone(exampleWords)
	for range 2 {
		nearest, _, _ := impl.NearestWords(given, "xyz")
		within, _ := impl.WordsWithin(given, "cat", impl.MaxTyped)
		wrong, _ := impl.WrongOnKey("at")
		swaps, _ := impl.SwapsOf("abc")
		runs, _ := impl.CountRuns("aab")
		for i, list := range [][]string{nearest, within, wrong, swaps} {
			want := [][]string{exampleWords, exampleWords, {"au", "av", "bt", "ct"}, {"acb", "bac"}}[i]
			if !slices.Equal(list, want) {
				t.Fatalf("the list %d is %q", i, list)
			}
			for k := range list[:cap(list)] {
				list[:cap(list)][k] = "new"
			}
		}
		if !slices.Equal(runs, []int{2, 1}) {
			t.Fatal("CountRuns", runs)
		}
		for k := range runs[:cap(runs)] {
			runs[:cap(runs)][k] = 9
		}
		if !slices.Equal(given, exampleWords) {
			t.Fatalf("the dictionary became %q", given)
		}
	}
}
