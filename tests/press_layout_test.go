package tests

import (
	"math"
	"slices"
	"strings"
	"testing"

	"loop.example/g01350/impl"
)

func padLayout() []string {
	return []string{"abc", "def", "ghi", "jkl", "mno", "pqrs", "tuv", "wxyz"}
}

var layouts = [][]string{
	padLayout(),
	{abc},
	{"zyxwvutsrqponmlkjihgfedcba"},
	{"a", "bcdefghijklmnopqrstuvwxyz"},
	{"etaoin", "shrdlu", "cmfwyp", "vbgkqj", "xz"},
	{"z", "y", "x", "w", "v", "u", "t", "abcdefghijklmnopqrs"},
}

var notLayouts = [][]string{
	nil, {}, {""}, {"a"}, {"", abc}, {abc, ""}, {"abc", "", abc[3:]}, {abc + "a"}, {abc, "a"}, {abc, abc},
	{abc[:25]}, {abc[1:]}, {abc[:25] + "a"}, {abc[:25] + "Z"}, {abc[:25] + "{"}, {"`" + abc[1:]}, {abc + " "}, {abc, " "}, {abc, "é"}, {abc[:24] + "é"},
	{abc[:25] + "\x00"}, {abc[:25] + "\xff"}, {strings.ToUpper(abc)},
	{"a", "b", "c", "d", "e", "f", "g", "h", abc[8:]},
	{"a", "b", "c", "d", "e", "f", "g", abc[7:], ""},
	strings.Split(abc, ""), {strings.Repeat("a", 100000)}, {"ab", "bc", abc[3:]},
}

func TestIsLayout(t *testing.T) {
	for _, layout := range layouts {
		if !impl.IsLayout(layout) {
			t.Errorf("%q is a layout", layout)
		}
	}
	for _, layout := range notLayouts {
		if impl.IsLayout(layout) {
			t.Errorf("%q is no layout", layout)
		}
		if got, ok := impl.PressesBy(layout, "dog"); got != 0 || ok {
			t.Errorf("PressesBy %q: %d %v", layout, got, ok)
		}
		if got, ok := impl.KeysOfLayout(layout, "dog"); len(got) != 0 || ok {
			t.Errorf("KeysOfLayout %q: %v %v", layout, got, ok)
		}
	}
}

func TestLayoutsOfWords(t *testing.T) {
	words := append(wordsOf(abc, 2), "a", "z", "dog", abc, limitWord, strings.Repeat("az", 20))
	for _, layout := range layouts {
		for _, word := range words {
			presses := 0
			keys := make([]int, len(word))
			for i := range len(word) {
				keys[i] = slices.IndexFunc(layout, func(text string) bool { return strings.Contains(text, word[i:i+1]) })
				presses += strings.Index(layout[keys[i]], word[i:i+1]) + 1
			}
			if got, ok := impl.PressesBy(layout, word); got != presses || !ok {
				t.Fatalf("PressesBy %q, %s: %d %v", layout, word, got, ok)
			}
			if got, ok := impl.KeysOfLayout(layout, word); !slices.Equal(got, keys) || !ok {
				t.Fatalf("KeysOfLayout %q, %s: %v %v", layout, word, got, ok)
			}
		}
	}
}

func TestLayoutOfPad(t *testing.T) {
	for _, word := range append(wordsOf(abc, 2), abc, limitWord) {
		own, _ := impl.CountPresses(word)
		if got, ok := impl.PressesBy(padLayout(), word); got != own || !ok {
			t.Errorf("PressesBy the pad's layout, %s: %d %v", word, got, ok)
		}
	}
	if got, ok := impl.KeysOfLayout(padLayout(), "dog"); !slices.Equal(got, []int{1, 4, 2}) || !ok {
		t.Error("KeysOfLayout of the pad", got, ok)
	}
}

// searchLayouts tries all lists of sizes in their order.
func searchLayouts(counts []int, keys int) ([]int, int) {
	var best, sizes []int
	least := math.MaxInt
	var search func(from, left, presses int)
	search = func(from, left, presses int) {
		if left == 0 {
			if from == len(counts) && presses < least {
				best, least = slices.Clone(sizes), presses
			}
			return
		}
		for end := from + 1; end <= len(counts)-left+1; end++ {
			presses += counts[end-1] * (end - from)
			sizes = append(sizes, end-from)
			search(end, left-1, presses)
			sizes = sizes[:len(sizes)-1]
		}
	}
	search(0, keys, 0)
	return best, least
}

func sameCounts(count int) []int { return slices.Repeat([]int{count}, 26) }

func countsBy(count func(i int) int) []int {
	counts := make([]int, 26)
	for i := range counts {
		counts[i] = count(i)
	}
	return counts
}

func TestBestLayout(t *testing.T) {
	lists := [][]int{
		sameCounts(0), sameCounts(1), sameCounts(1000),
		countsBy(func(i int) int { return i }),
		countsBy(func(i int) int { return 1000 - 40*i }),
		countsBy(func(i int) int { return i * i * 7 % 11 }),
		countsBy(func(i int) int { return i % 2 }),
		countsBy(func(i int) int { return i / 25 * 1000 }),
		countsBy(func(i int) int { return (25 - i) / 25 * 1000 }),
		{82, 15, 28, 43, 127, 22, 20, 61, 70, 2, 8, 40, 24, 67, 75, 19, 1, 60, 63, 91, 28, 10, 24, 2, 20, 1},
	}
	for _, counts := range lists {
		for _, keys := range []int{1, 2, 3, 4, 5, impl.MaxKeys} {
			sizes, presses := searchLayouts(counts, keys)
			got, least, ok := impl.BestLayout(counts, keys)
			if !slices.Equal(got, sizes) || least != presses || !ok {
				t.Errorf("BestLayout %v, %d: %v %d %v, not %v %d", counts, keys, got, least, ok, sizes, presses)
			}
		}
	}
}

func TestBestLayoutByHand(t *testing.T) {
	if sizes, presses, ok := impl.BestLayout(sameCounts(1000), 1); !slices.Equal(sizes, []int{26}) || presses != 351000 || !ok {
		t.Error("one key", sizes, presses, ok)
	}
	if sizes, presses, ok := impl.BestLayout(sameCounts(0), impl.MaxKeys); !slices.Equal(sizes, []int{1, 1, 1, 1, 1, 1, 1, 19}) || presses != 0 || !ok {
		t.Error("no letters", sizes, presses, ok)
	}
	if sizes, presses, ok := impl.BestLayout(sameCounts(1), impl.MaxKeys); !slices.Equal(sizes, []int{3, 3, 3, 3, 3, 3, 4, 4}) || presses != 56 || !ok {
		t.Error("letters alike", sizes, presses, ok)
	}
}

func TestBestLayoutInvalid(t *testing.T) {
	with := func(at, count int) []int {
		counts := sameCounts(1)
		counts[at] = count
		return counts
	}
	lists := [][]int{
		nil, {}, {1}, sameCounts(1)[:25], append(sameCounts(1), 1), make([]int, 1000),
		with(0, -1), with(25, -1), with(0, 1001), with(25, 1001), with(13, math.MinInt), with(13, math.MaxInt),
	}
	for _, counts := range lists {
		if sizes, presses, ok := impl.BestLayout(counts, 2); len(sizes) != 0 || presses != 0 || ok {
			t.Errorf("BestLayout %v: %v %d %v", counts, sizes, presses, ok)
		}
	}
	for _, keys := range []int{0, -1, impl.MaxKeys + 1, 26, 27, math.MinInt, math.MaxInt} {
		if sizes, presses, ok := impl.BestLayout(sameCounts(1), keys); len(sizes) != 0 || presses != 0 || ok {
			t.Errorf("BestLayout with %d keys: %v %d %v", keys, sizes, presses, ok)
		}
	}
}

// TestLayoutsStay checks that lists given are neither changed nor written behind, and that results are new.
func TestLayoutsStay(t *testing.T) {
	counts := append(sameCounts(3), 77, 78)
	layout := append(padLayout(), "behind", "it")
	sizes, _, ok := impl.BestLayout(counts[:26], 8)
	if !ok || !slices.Equal(counts, append(sameCounts(3), 77, 78)) {
		t.Error("BestLayout changed its counts", counts)
	}
	keys, ok := impl.KeysOfLayout(layout[:8], "dog")
	presses, does := impl.PressesBy(layout[:8], "dog")
	if !ok || !does || presses != 5 || !impl.IsLayout(layout[:8]) {
		t.Error("a layout with more behind it", ok, does, presses)
	}
	if !slices.Equal(layout, append(padLayout(), "behind", "it")) {
		t.Error("the layout was changed", layout)
	}
	for i := range sizes {
		sizes[i] = -1
	}
	for i := range keys {
		keys[i] = -1
	}
	if again, _, _ := impl.BestLayout(counts[:26], 8); !slices.Equal(again, []int{3, 3, 3, 3, 3, 3, 4, 4}) {
		t.Error("BestLayout keeps its result", again)
	}
	if again, _ := impl.KeysOfLayout(layout[:8], "dog"); !slices.Equal(again, []int{1, 4, 2}) {
		t.Error("KeysOfLayout keeps its result", again)
	}
}
