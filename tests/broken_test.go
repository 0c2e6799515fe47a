package tests

import (
	"slices"
	"strings"
	"testing"

	"loop.example/g01350/impl"
)

var (
	typedLimit = strings.Repeat("ab", impl.MaxTyped/2)
	oneLetter  = strings.Repeat("a", impl.MaxTyped)
	manyTyped  = abc[:impl.MaxTyped]
	shownLimit = strings.Repeat("a", 2*impl.MaxTyped)
)

// typedSamples are texts with no letters, few, and just MaxTyped, with runs and without.
var typedSamples = []string{
	"", "a", "z", "aa", "ab", "aab", "aba", "letter", "cat", "cart", "banana", "mississippi", "abcabc", "zyxwvutsrqponmlkjihg",
	typedLimit, oneLetter, manyTyped, strings.Repeat("z", impl.MaxTyped), abc[26-impl.MaxTyped:], "aabbccddeeffgghhiijj",
}

// noLetters are texts with a sign that is no letter.
var noLetters = []string{
	" ", "A", "Z", "`", "{", "0", "2", "*", "-", ",", "é", "ａ", "\x00", "\xff", "a b", "ab ", " ab", "abC", "do\ng", "aé", "éa", "a\xffb",
	strings.Repeat("é", 10), strings.Repeat("A", impl.MaxTyped), strings.Repeat("a", impl.MaxTyped-1) + "!",
}

var notTyped = append([]string{
	oneLetter + "a", typedLimit + "b", abc, shownLimit, strings.Repeat("z", 100000), strings.Repeat("a", 1<<20),
}, noLetters...)

var notShown = append([]string{
	shownLimit + "a", strings.Repeat("ab", impl.MaxTyped) + "a", strings.Repeat("z", 100000),
}, noLetters...)

// notIncreasing are texts that are no letters: not strictly increasing, or no texts at all.
var notIncreasing = append([]string{
	"aa", "ba", "aab", "abb", "acb", "abca", "zy", "abcdefa", "abcdee", oneLetter, typedLimit,
	abc[:impl.MaxTyped+1], abc,
}, noLetters...)

// textsOf returns all texts of at most so many letters of an alphabet.
func textsOf(alphabet string, most int) []string {
	var texts []string
	for letters := range most + 1 {
		texts = append(texts, wordsOf(alphabet, letters)...)
	}
	return texts
}

// choicesOf returns all texts of some letters, or none, in their order in a text.
func choicesOf(letters string) []string {
	choices := []string{""}
	for i := range len(letters) {
		for _, choice := range choices {
			choices = append(choices, choice+letters[i:i+1])
		}
	}
	return choices
}

func typeOn(text string, dead string, stuck string) string {
	shown := ""
	for _, letter := range strings.Split(text, "") {
		if letter != "" && strings.Contains(stuck, letter) {
			shown += letter
		}
		if letter != "" && !strings.Contains(dead, letter) {
			shown += letter
		}
	}
	return shown
}

func lettersIn(text string) string {
	letters := ""
	for i := range len(abc) {
		if strings.Contains(text, abc[i:i+1]) {
			letters += abc[i : i+1]
		}
	}
	return letters
}

func TestShownText(t *testing.T) {
	choices := choicesOf("abcd")
	for _, text := range append(textsOf("abc", 4), typedSamples...) {
		for _, dead := range choices {
			for _, stuck := range choices {
				want, can := "", !strings.ContainsAny(dead, stuck)
				if can {
					want = typeOn(text, dead, stuck)
				}
				if got, ok := impl.ShownText(text, dead, stuck); got != want || ok != can {
					t.Fatalf("ShownText %q, %q, %q: %q %v, not %q %v", text, dead, stuck, got, ok, want, can)
				}
			}
		}
	}
}

func TestShownTextByHand(t *testing.T) {
	for _, c := range []struct{ text, dead, stuck, shown string }{
		{"letter", "e", "", "lttr"}, {"letter", "", "e", "leetteer"}, {"letter", "t", "el", "lleeeer"}, {"letter", "elrt", "", ""},
		{"letter", "", "elrt", "lleetttteerr"}, {"letter", "abc", "dfg", "letter"}, {"", "a", "b", ""}, {"", "", "", ""}, {"az", "z", "a", "aa"},
		{oneLetter, "", "a", shownLimit}, {oneLetter, manyTyped, "", ""}, {manyTyped, "", manyTyped, "aabbccddeeffgghhiijjkkllmmnnooppqqrrsstt"},
		{"xyz", manyTyped, "uvwxyz", "xxyyzz"}, {typedLimit, "a", "b", strings.Repeat("b", impl.MaxTyped)},
	} {
		if got, ok := impl.ShownText(c.text, c.dead, c.stuck); got != c.shown || !ok {
			t.Errorf("ShownText %q, %q, %q: %q %v", c.text, c.dead, c.stuck, got, ok)
		}
	}
	for _, c := range [][3]string{
		{"letter", "e", "e"}, {"letter", "et", "rt"}, {"", "a", "a"}, {"letter", "abc", "cde"}, {"letter", "az", "mz"}, {"b", "ac", "bc"}, {"a", manyTyped, "t"},
	} {
		if got, ok := impl.ShownText(c[0], c[1], c[2]); got != "" || ok {
			t.Errorf("ShownText %q: %q %v", c, got, ok)
		}
	}
}

// brokenKeys are dead and stuck letters.
type brokenKeys struct{ dead, stuck string }

// waysToShow returns by which dead and stuck letters, of those in a text, it is shown as each text.
func waysToShow(text string) map[string]brokenKeys {
	ways := map[string]brokenKeys{}
	for _, dead := range choicesOf(lettersIn(text)) {
		for _, stuck := range choicesOf(lettersIn(text)) {
			if !strings.ContainsAny(dead, stuck) {
				ways[typeOn(text, dead, stuck)] = brokenKeys{dead, stuck}
			}
		}
	}
	return ways
}

// holdBroken holds what may have been broken against all ways to show a text.
func holdBroken(t *testing.T, text string, shown string, ways map[string]brokenKeys) {
	t.Helper()
	way, can := ways[shown]
	if got, ok := impl.CanShow(text, shown); got != can || !ok {
		t.Fatalf("CanShow %q, %q: %v %v, not %v", text, shown, got, ok, can)
	}
	want, dead := "", can && way.stuck == ""
	if dead {
		want = way.dead
	}
	if got, ok := impl.DeadFor(text, shown); got != want || ok != dead {
		t.Fatalf("DeadFor %q, %q: %q %v, not %q %v", text, shown, got, ok, want, dead)
	}
	want, stuck := "", can && way.dead == ""
	if stuck {
		want = way.stuck
	}
	if got, ok := impl.StuckFor(text, shown); got != want || ok != stuck {
		t.Fatalf("StuckFor %q, %q: %q %v, not %q %v", text, shown, got, ok, want, stuck)
	}
}

func TestBrokenForTexts(t *testing.T) {
	others := textsOf("abc", 5)
	for _, text := range append(textsOf("abc", 4), "letter", "banana", "xyzxyz", "aabbaabb", oneLetter, typedLimit) {
		ways := waysToShow(text)
		for _, shown := range others {
			holdBroken(t, text, shown, ways)
		}
		for shown := range ways {
			holdBroken(t, text, shown, ways)
			for i := range len(shown) {
				holdBroken(t, text, shown[:i]+shown[i+1:], ways)
				holdBroken(t, text, shown[:i]+"b"+shown[i+1:], ways)
				if len(shown) < 2*impl.MaxTyped {
					holdBroken(t, text, shown[:i]+shown[i:i+1]+shown[i:], ways)
				}
			}
		}
	}
}

func TestBrokenByHand(t *testing.T) {
	for _, c := range []struct{ text, shown, dead string }{
		{"letter", "lttr", "e"}, {"letter", "letter", ""}, {"letter", "", "elrt"}, {"", "", ""}, {"letter", "leer", "t"}, {oneLetter, "", "a"},
		{typedLimit, oneLetter[:10], "b"}, {manyTyped, "", manyTyped}, {manyTyped, manyTyped, ""},
	} {
		if got, ok := impl.DeadFor(c.text, c.shown); got != c.dead || !ok {
			t.Errorf("DeadFor %q, %q: %q %v", c.text, c.shown, got, ok)
		}
	}
	for _, c := range [][2]string{
		{"letter", "lettr"}, {"letter", "lettre"}, {"letter", "leetteer"}, {"letter", "lettera"}, {"letter", "ettera"}, {"letter", "ltrt"},
		{"", "a"}, {"aa", "a"}, {"a", "aa"}, {"ab", "aa"}, {"a", "b"}, {"ab", shownLimit}, {oneLetter, shownLimit}, {"aaa", "aaaaaaaaa"},
	} {
		if got, ok := impl.DeadFor(c[0], c[1]); got != "" || ok {
			t.Errorf("DeadFor %q: %q %v", c, got, ok)
		}
	}
	for _, c := range []struct{ text, shown, stuck string }{
		{"letter", "leetteer", "e"}, {"letter", "letter", ""}, {"letter", "lleetttteerr", "elrt"}, {"", "", ""}, {oneLetter, shownLimit, "a"},
		{manyTyped, "aabbccddeeffgghhiijjkkllmmnnooppqqrrsstt", manyTyped}, {"aab", "aaaab", "a"},
	} {
		if got, ok := impl.StuckFor(c.text, c.shown); got != c.stuck || !ok {
			t.Errorf("StuckFor %q, %q: %q %v", c.text, c.shown, got, ok)
		}
	}
	for _, c := range [][2]string{
		{"letter", "leetter"}, {"letter", "lttr"}, {"letter", "leettee"}, {"letter", "lettteer"}, {"letter", ""}, {"", "aa"}, {"a", "aaa"}, {"aa", "aaa"}, {"aa", "a"},
		{"ab", "ba"}, {"ab", "baab"}, {"ab", "bbaa"}, {"a", shownLimit}, {"a", "bb"}, {oneLetter, shownLimit[1:]},
	} {
		if got, ok := impl.StuckFor(c[0], c[1]); got != "" || ok {
			t.Errorf("StuckFor %q: %q %v", c, got, ok)
		}
	}
	for text, shown := range map[string]string{"letter": "leelr", "ab": "bb", "": "", "abab": "aaaa", oneLetter: shownLimit, typedLimit: strings.Repeat("aab", 10)} {
		want := text != "letter"
		if got, ok := impl.CanShow(text, shown); got != want || !ok {
			t.Errorf("CanShow %q, %q: %v %v", text, shown, got, ok)
		}
	}
	for text, shown := range map[string]string{"a": "aaa", "aa": "aaaaaa", "ab": "ba", "": "a", "aba": "aab", "b": shownLimit, "aab": "ab"} {
		if got, ok := impl.CanShow(text, shown); got || !ok {
			t.Errorf("CanShow %q, %q: %v %v", text, shown, got, ok)
		}
	}
}

// TestShownIsFound types texts on broken keys, and finds these.
func TestShownIsFound(t *testing.T) {
	for _, text := range typedSamples {
		letters := lettersIn(text)
		for cut := range len(letters) + 1 {
			broken := letters[:cut]
			shown, ok := impl.ShownText(text, broken, "")
			if got, found := impl.DeadFor(text, shown); got != broken || !ok || !found {
				t.Errorf("DeadFor %q, %q: %q %v, not %q", text, shown, got, found, broken)
			}
			shown, ok = impl.ShownText(text, "", broken)
			if got, found := impl.StuckFor(text, shown); got != broken || !ok || !found {
				t.Errorf("StuckFor %q, %q: %q %v, not %q", text, shown, got, found, broken)
			}
			if got, found := impl.UnstuckText(shown, broken); got != text || !ok || !found {
				t.Errorf("UnstuckText %q, %q: %q %v, not %q", shown, broken, got, found, text)
			}
			shown, ok = impl.ShownText(text, broken, letters[cut:])
			if got, found := impl.CanShow(text, shown); !got || !ok || !found {
				t.Errorf("CanShow %q, %q: %v %v", text, shown, got, found)
			}
		}
	}
}

func TestUnstuckText(t *testing.T) {
	for _, stuck := range choicesOf("abc") {
		typed := map[string]string{}
		for _, text := range textsOf("abc", 6) {
			typed[typeOn(text, "", stuck)] = text
		}
		for _, shown := range textsOf("abc", 6) {
			want, can := typed[shown]
			if got, ok := impl.UnstuckText(shown, stuck); got != want || ok != can {
				t.Fatalf("UnstuckText %q, %q: %q %v, not %q %v", shown, stuck, got, ok, want, can)
			}
		}
	}
}

func TestUnstuckTextByHand(t *testing.T) {
	for _, c := range []struct{ shown, stuck, text string }{
		{"aab", "a", "ab"}, {"leetteer", "e", "letter"}, {"", "", ""}, {"", "abc", ""}, {"letter", "", "letter"}, {"letter", "xyz", "letter"}, {"letter", "t", "leter"},
		{shownLimit, "a", oneLetter}, {oneLetter, "", oneLetter}, {oneLetter, "b", oneLetter}, {oneLetter, "a", oneLetter[:10]},
		{strings.Repeat("aab", 10), "a", typedLimit}, {"aabbccddeeffgghhiijjkkllmmnnooppqqrrsstt", manyTyped, manyTyped},
	} {
		if got, ok := impl.UnstuckText(c.shown, c.stuck); got != c.text || !ok {
			t.Errorf("UnstuckText %q, %q: %q %v", c.shown, c.stuck, got, ok)
		}
	}
	for _, c := range [][2]string{
		{"aaab", "a"}, {"a", "a"}, {"aba", "a"}, {"abab", "a"}, {"baa", "b"}, {"aabaaa", "a"}, {"letter", "e"}, {"bba", "ab"}, {"baaab", "a"}, {shownLimit[1:], "a"},
		{oneLetter + "a", ""}, {shownLimit, ""}, {shownLimit, "b"}, {strings.Repeat("aab", 11), "a"}, {strings.Repeat("ab", impl.MaxTyped), "b"},
	} {
		if got, ok := impl.UnstuckText(c[0], c[1]); got != "" || ok {
			t.Errorf("UnstuckText %q: %q %v", c, got, ok)
		}
	}
}

func TestLettersOf(t *testing.T) {
	for _, text := range append(textsOf("aby", 5), typedSamples...) {
		if got, ok := impl.LettersOf(text); got != lettersIn(text) || !ok {
			t.Errorf("LettersOf %q: %q %v", text, got, ok)
		}
	}
	for text, letters := range map[string]string{"letter": "elrt", "": "", "zaz": "az", oneLetter: "a", manyTyped: manyTyped, "zyxwvutsrqponmlkjihg": abc[6:]} {
		if got, ok := impl.LettersOf(text); got != letters || !ok {
			t.Errorf("LettersOf %q: %q %v", text, got, ok)
		}
	}
}

func TestCountShown(t *testing.T) {
	for _, text := range append(textsOf("abcd", 4), "letter", "banana", "abcdef", "abcabc", oneLetter, typedLimit) {
		if got, ok := impl.CountShown(text); got != len(waysToShow(text)) || !ok {
			t.Errorf("CountShown %q: %d %v, not %d", text, got, ok, len(waysToShow(text)))
		}
	}
	for text, count := range map[string]int{"": 1, "a": 3, "ab": 9, "aaa": 3, "letter": 81, manyTyped: 3486784401, abc[:19] + "a": 1162261467} {
		if got, ok := impl.CountShown(text); got != count || !ok {
			t.Errorf("CountShown %q: %d %v", text, got, ok)
		}
	}
}

// holdRuns puts a text together from the letters and the lengths of its runs.
func holdRuns(t *testing.T, text string) {
	t.Helper()
	letters, ok := impl.CollapseText(text)
	runs, counted := impl.CountRuns(text)
	if !ok || !counted || len(letters) != len(runs) {
		t.Fatalf("%q has the letters %q %v and the runs %v %v", text, letters, ok, runs, counted)
	}
	together := ""
	for i, run := range runs {
		if run < 1 || i > 0 && letters[i-1] == letters[i] {
			t.Fatalf("%q has the letters %q and the runs %v", text, letters, runs)
		}
		together += strings.Repeat(letters[i:i+1], run)
	}
	if together != text {
		t.Fatalf("%q becomes %q", text, together)
	}
}

func TestRuns(t *testing.T) {
	for _, text := range append(textsOf("abc", 6), typedSamples...) {
		holdRuns(t, text)
	}
	for _, c := range []struct {
		text, letters string
		runs          []int
	}{
		{"", "", nil}, {"a", "a", []int{1}}, {"letter", "leter", []int{1, 1, 2, 1, 1}}, {"aabaaa", "aba", []int{2, 1, 3}}, {oneLetter, "a", []int{impl.MaxTyped}},
		{typedLimit, typedLimit, slices.Repeat([]int{1}, impl.MaxTyped)}, {"aabbccddeeffgghhiijj", "abcdefghij", slices.Repeat([]int{2}, 10)},
	} {
		if got, ok := impl.CollapseText(c.text); got != c.letters || !ok {
			t.Errorf("CollapseText %q: %q %v", c.text, got, ok)
		}
		if got, ok := impl.CountRuns(c.text); !slices.Equal(got, c.runs) || !ok {
			t.Errorf("CountRuns %q: %v %v", c.text, got, ok)
		}
	}
}
