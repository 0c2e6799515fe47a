package tests

import (
	"math"
	"slices"
	"strings"
	"testing"

	"loop.example/g01350/impl"
)

// The keys and presses of a to z, written out apart from the program's own table.
const (
	givenKeys    = "22233344455566677778889999"
	givenPresses = "12312312312312312341231234"
)

func keyFor(letter byte) byte { return givenKeys[letter-'a'] }

func pressesFor(letter byte) int { return int(givenPresses[letter-'a'] - '0') }

// wordsOf returns all words of so many letters of an alphabet, in the order of texts if the alphabet is ordered.
func wordsOf(alphabet string, letters int) []string {
	words := []string{""}
	for range letters {
		var longer []string
		for _, word := range words {
			for i := range len(alphabet) {
				longer = append(longer, word+alphabet[i:i+1])
			}
		}
		words = longer
	}
	return words
}

func pressesOf(word string) string {
	text := ""
	for i := range len(word) {
		if i > 0 && keyFor(word[i-1]) == keyFor(word[i]) {
			text += " "
		}
		text += strings.Repeat(string(keyFor(word[i])), pressesFor(word[i]))
	}
	return text
}

const abc = "abcdefghijklmnopqrstuvwxyz"

// notWords are texts of every kind that is no word.
var notWords = []string{
	"", " ", "A", "Z", "`", "{", "0", "2", "*", "é", "\x00", "\xff", "a b", "ab ", " ab", "abC", "do\ng",
	strings.Repeat("a", impl.MaxLetters+1), strings.Repeat("z", 100000), strings.Repeat("é", 20),
}

var notKeys = []string{
	"", " ", "0", "1", "*", "#", ":", "a", "dog", "3 4", "364 ", "21", "120", "é", "\x00", "\xff",
	strings.Repeat("2", impl.MaxLetters+1), strings.Repeat("9", 100000),
}

var limitWord = strings.Repeat("s", impl.MaxLetters)

func TestIsWord(t *testing.T) {
	for _, word := range []string{"a", "z", "m", "dog", "cab", abc, limitWord, strings.Repeat("a", impl.MaxLetters)} {
		if !impl.IsWord(word) {
			t.Errorf("%q is a word", word)
		}
	}
	for _, word := range notWords {
		if impl.IsWord(word) {
			t.Errorf("%q is no word", word)
		}
	}
}

func TestLetters(t *testing.T) {
	for i := range len(abc) {
		letter := abc[i : i+1]
		if key, ok := impl.KeyOf(letter); key != string(keyFor(abc[i])) || !ok {
			t.Errorf("KeyOf %s: %q %v", letter, key, ok)
		}
		if presses, ok := impl.PressesFor(letter); presses != pressesFor(abc[i]) || !ok {
			t.Errorf("PressesFor %s: %d %v", letter, presses, ok)
		}
	}
	for _, letter := range append([]string{"ab", "dog", "aa"}, notWords...) {
		if key, ok := impl.KeyOf(letter); key != "" || ok {
			t.Errorf("KeyOf %q: %q %v", letter, key, ok)
		}
		if presses, ok := impl.PressesFor(letter); presses != 0 || ok {
			t.Errorf("PressesFor %q: %d %v", letter, presses, ok)
		}
	}
}

// TestWordsOfLetters holds all that is told of a word against what is told of its letters.
func TestWordsOfLetters(t *testing.T) {
	words := slices.Concat(wordsOf(abc, 1), wordsOf(abc, 2), wordsOf(abc, 3))
	words = append(words, abc, limitWord, strings.Repeat("az", 20), strings.Repeat("m", 39), "letter", "zzyzx")
	for _, word := range words {
		keys, presses, waits := "", 0, 0
		for i := range len(word) {
			keys += string(keyFor(word[i]))
			presses += pressesFor(word[i])
			if i > 0 && keys[i-1] == keys[i] {
				waits++
			}
		}
		if got, ok := impl.KeysOf(word); got != keys || !ok {
			t.Fatalf("KeysOf %s: %q %v", word, got, ok)
		}
		if got, ok := impl.CountPresses(word); got != presses || !ok {
			t.Fatalf("CountPresses %s: %d %v", word, got, ok)
		}
		if got, ok := impl.WaitsIn(word); got != waits || !ok {
			t.Fatalf("WaitsIn %s: %d %v", word, got, ok)
		}
		if got, ok := impl.PressText(word); got != pressesOf(word) || !ok {
			t.Fatalf("PressText %s: %q %v", word, got, ok)
		}
		if got, ok := impl.ReadPresses(pressesOf(word)); got != word || !ok {
			t.Fatalf("ReadPresses of %s: %q %v", word, got, ok)
		}
		if got, ok := impl.TimeFor(word, 7, 100); got != 7*presses+100*waits || !ok {
			t.Fatalf("TimeFor %s: %d %v", word, got, ok)
		}
	}
}

func TestExamplesOfPresses(t *testing.T) {
	if text, ok := impl.PressText("cab"); text != "222 2 22" || !ok {
		t.Error("PressText cab", text, ok)
	}
	if text, ok := impl.PressText("dog"); text != "36664" || !ok {
		t.Error("PressText dog", text, ok)
	}
	if keys, ok := impl.KeysOf("dog"); keys != "364" || !ok {
		t.Error("KeysOf dog", keys, ok)
	}
	if time, ok := impl.TimeFor("cab", 1, 5); time != 16 || !ok {
		t.Error("TimeFor cab", time, ok)
	}
	if count, ok := impl.CountSameKeys("364"); count != 27 || !ok {
		t.Error("CountSameKeys 364", count, ok)
	}
	if word, ok := impl.FirstWord("364"); word != "dmg" || !ok {
		t.Error("FirstWord 364", word, ok)
	}
	if word, ok := impl.WordOfRank("364", 6); word != "dog" || !ok {
		t.Error("WordOfRank 364, 6", word, ok)
	}
	if rank, ok := impl.RankOfWord("dog"); rank != 6 || !ok {
		t.Error("RankOfWord dog", rank, ok)
	}
	if word, ok := impl.LongestPressed(8, 3); word != "acs" || !ok {
		t.Error("LongestPressed 8, 3", word, ok)
	}
	if text, ok := impl.PressText(limitWord); len(text) != impl.MaxPresses-1 || !ok {
		t.Error("PressText of the longest presses", len(text), ok)
	}
	if presses, ok := impl.CountPresses(limitWord); presses != 160 || !ok {
		t.Error("CountPresses of the longest presses", presses, ok)
	}
	if waits, ok := impl.WaitsIn(limitWord); waits != 39 || !ok {
		t.Error("WaitsIn of the longest presses", waits, ok)
	}
}

func TestNoWords(t *testing.T) {
	for _, word := range notWords {
		if got, ok := impl.CountPresses(word); got != 0 || ok {
			t.Errorf("CountPresses %q: %d %v", word, got, ok)
		}
		if got, ok := impl.PressText(word); got != "" || ok {
			t.Errorf("PressText %q: %q %v", word, got, ok)
		}
		if got, ok := impl.KeysOf(word); got != "" || ok {
			t.Errorf("KeysOf %q: %q %v", word, got, ok)
		}
		if got, ok := impl.RankOfWord(word); got != 0 || ok {
			t.Errorf("RankOfWord %q: %d %v", word, got, ok)
		}
		if got, ok := impl.SameKeys(word, "dog"); got || ok {
			t.Errorf("SameKeys %q, dog: %v %v", word, got, ok)
		}
		if got, ok := impl.SameKeys("dog", word); got || ok {
			t.Errorf("SameKeys dog, %q: %v %v", word, got, ok)
		}
		if got, ok := impl.SameKeys(word, word); got || ok {
			t.Errorf("SameKeys %q with itself: %v %v", word, got, ok)
		}
		if got, ok := impl.WaitsIn(word); got != 0 || ok {
			t.Errorf("WaitsIn %q: %d %v", word, got, ok)
		}
		if got, ok := impl.TimeFor(word, 1, 1); got != 0 || ok {
			t.Errorf("TimeFor %q: %d %v", word, got, ok)
		}
		if got, ok := impl.PressesBy([]string{abc}, word); got != 0 || ok {
			t.Errorf("PressesBy %q: %d %v", word, got, ok)
		}
		if got, ok := impl.KeysOfLayout([]string{abc}, word); len(got) != 0 || ok {
			t.Errorf("KeysOfLayout %q: %v %v", word, got, ok)
		}
	}
}

func TestReadPresses(t *testing.T) {
	good := map[string]string{
		"2": "a", "222": "c", "7777": "s", "9999": "z", "2 2": "aa", "22 2": "ba", "2 22": "ab", "23": "ad",
		"222 2 22": "cab", "36664": "dog", "22272": "cpa", "7777 7": "sp",
	}
	for presses, word := range good {
		if got, ok := impl.ReadPresses(presses); got != word || !ok {
			t.Errorf("ReadPresses %q: %q %v", presses, got, ok)
		}
	}
	bad := map[string]string{
		"empty": "", "blank": " ", "blanks": "   ",
		"missing wait": "2222", "missing wait of four": "77777", "missing wait amid": "322224", "missing wait at the limit": "99999",
		"needless wait": "2 3", "needless wait amid": "22 2 3", "doubled wait": "2  2", "doubled wait amid": "32  24",
		"wait in front": " 2", "wait behind": "2 ", "wait behind two": "2 2 ",
		"other digit": "1", "zero": "2 0", "star": "2*", "hash": "#", "letter": "a", "letters": "dog", "tab": "2\t2", "line": "2\n",
		"wide blank": "2\u00a02", "wide digit": "２", "no text": "\xff", "nul": "2\x002",
	}
	for name, presses := range bad {
		if got, ok := impl.ReadPresses(presses); got != "" || ok {
			t.Errorf("%s: ReadPresses %q: %q %v", name, presses, got, ok)
		}
	}
}

// TestReadPressesFindsNoMore tries all short texts of some signs: just the presses of words may be read.
func TestReadPressesFindsNoMore(t *testing.T) {
	words := map[string]string{}
	for letters := 1; letters <= 6; letters++ {
		for _, word := range wordsOf("abcpqrs", letters) {
			words[pressesOf(word)] = word
		}
	}
	for signs := 0; signs <= 6; signs++ {
		for _, presses := range wordsOf(" 127", signs) {
			got, ok := impl.ReadPresses(presses)
			if word, is := words[presses]; got != word || ok != is {
				t.Fatalf("ReadPresses %q: %q %v", presses, got, ok)
			}
		}
	}
}

func TestReadPressesLimits(t *testing.T) {
	longest := pressesOf(limitWord)
	if got, ok := impl.ReadPresses(longest); got != limitWord || !ok {
		t.Error("the longest presses", got, ok)
	}
	short := strings.Repeat("2 ", impl.MaxLetters-1) + "2"
	if got, ok := impl.ReadPresses(short); got != strings.Repeat("a", impl.MaxLetters) || !ok {
		t.Error("presses of MaxLetters letters", got, ok)
	}
	for _, presses := range []string{
		longest + " ", longest + "2", longest + " 7", short + " 2", short + "3",
		strings.Repeat("2", impl.MaxPresses), strings.Repeat("23", impl.MaxPresses/2),
		strings.Repeat("2 ", 100) + "2", strings.Repeat("2", 100000), strings.Repeat(" ", 100000),
	} {
		if got, ok := impl.ReadPresses(presses); got != "" || ok {
			t.Errorf("ReadPresses of %d signs: %q %v", len(presses), got, ok)
		}
	}
}

func TestSameKeys(t *testing.T) {
	same := [][2]string{{"a", "a"}, {"a", "c"}, {"cab", "bac"}, {"dog", "fog"}, {"p", "s"}, {"w", "z"}, {limitWord, strings.Repeat("p", 40)}}
	for _, pair := range same {
		if got, ok := impl.SameKeys(pair[0], pair[1]); !got || !ok {
			t.Errorf("SameKeys %v: %v %v", pair, got, ok)
		}
	}
	different := [][2]string{{"a", "d"}, {"dog", "god"}, {"a", "aa"}, {"aa", "a"}, {"dog", "do"}, {"cab", "cad"}, {limitWord, limitWord[1:]}}
	for _, pair := range different {
		if got, ok := impl.SameKeys(pair[0], pair[1]); got || !ok {
			t.Errorf("SameKeys %v: %v %v", pair, got, ok)
		}
	}
}

func TestTimeForBounds(t *testing.T) {
	good := []struct{ press, wait, time int }{{0, 0, 0}, {1000, 0, 6000}, {0, 1000, 2000}, {1000, 1000, 8000}, {1, 5, 16}}
	for _, c := range good {
		if got, ok := impl.TimeFor("cab", c.press, c.wait); got != c.time || !ok {
			t.Errorf("TimeFor cab, %d, %d: %d %v", c.press, c.wait, got, ok)
		}
	}
	bad := [][2]int{{-1, 0}, {0, -1}, {1001, 0}, {0, 1001}, {math.MinInt, 1}, {1, math.MinInt}, {math.MaxInt, 1}, {1, math.MaxInt}}
	for _, c := range bad {
		if got, ok := impl.TimeFor("cab", c[0], c[1]); got != 0 || ok {
			t.Errorf("TimeFor cab, %v: %d %v", c, got, ok)
		}
	}
}
