package tests

import (
	"math/rand"
	"strings"
	"testing"

	"loop.example/g01350/impl"
)

// typosFrom follows typos from a text, with the letters of an alphabet and no longer texts than told, and returns how many lead to each text.
func typosFrom(text string, alphabet string, most int) map[string]int {
	typos := map[string]int{text: 0}
	reached := []string{text}
	for at := 0; at < len(reached); at++ {
		for _, next := range oneTypoFrom(reached[at], alphabet) {
			if _, seen := typos[next]; !seen && len(next) <= most {
				typos[next] = typos[reached[at]] + 1
				reached = append(reached, next)
			}
		}
	}
	return typos
}

func oneTypoFrom(text string, alphabet string) []string {
	var next []string
	for i := range len(text) + 1 {
		for _, letter := range strings.Split(alphabet, "") {
			next = append(next, text[:i]+letter+text[i:])
			if i < len(text) {
				next = append(next, text[:i]+letter+text[i+1:])
			}
		}
		if i < len(text) {
			next = append(next, text[:i]+text[i+1:])
		}
	}
	return next
}

func TestTypoDistanceOfShortTexts(t *testing.T) {
	for _, few := range []struct {
		alphabet string
		most     int
	}{{"abc", 4}, {"ab", 6}} {
		texts := textsOf(few.alphabet, few.most)
		for _, a := range texts {
			typos := typosFrom(a, few.alphabet, few.most)
			for _, b := range texts {
				if got, ok := impl.TypoDistance(a, b); got != typos[b] || !ok {
					t.Fatalf("TypoDistance %q, %q: %d %v, not %d", a, b, got, ok, typos[b])
				}
				if got, ok := impl.IsOneTypo(a, b); got != (typos[b] == 1) || !ok {
					t.Fatalf("IsOneTypo %q, %q: %v %v with the distance %d", a, b, got, ok, typos[b])
				}
			}
		}
	}
}

// typoSearch finds the first signs by the fewest typos, by trying all signs for the rests of two texts.
type typoSearch map[[2]string]string

func countTypos(signs string) int { return len(signs) - strings.Count(signs, "k") }

func (found typoSearch) first(a string, b string) string {
	if a == "" && b == "" {
		return ""
	}
	if best, ok := found[[2]string{a, b}]; ok {
		return best
	}
	var all []string
	if a != "" {
		all = append(all, "l"+found.first(a[1:], b))
	}
	if b != "" {
		all = append(all, "m"+found.first(a, b[1:]))
	}
	if a != "" && b != "" {
		sign := "r"
		if a[0] == b[0] {
			sign = "k"
		}
		all = append(all, sign+found.first(a[1:], b[1:]))
	}
	best := all[0]
	for _, signs := range all {
		if countTypos(signs) < countTypos(best) || countTypos(signs) == countTypos(best) && signs < best {
			best = signs
		}
	}
	found[[2]string{a, b}] = best
	return best
}

// taken returns the letters of a text that typos take: all but those that are kept.
func taken(b string, typos string) string {
	letters := ""
	for _, sign := range strings.ReplaceAll(typos, "l", "") {
		if sign != 'k' {
			letters += b[:1]
		}
		b = b[1:]
	}
	return letters
}

func holdTypos(t *testing.T, a string, b string, found typoSearch) {
	t.Helper()
	want := found.first(a, b)
	typos, ok := impl.FirstTypos(a, b)
	if typos != want || !ok {
		t.Fatalf("FirstTypos %q, %q: %q %v, not %q", a, b, typos, ok, want)
	}
	if got, ok := impl.TypoDistance(a, b); got != countTypos(want) || !ok {
		t.Fatalf("TypoDistance %q, %q: %d %v with %q", a, b, got, ok, want)
	}
	if got, ok := impl.ApplyTypos(a, typos, taken(b, typos)); got != b || !ok {
		t.Fatalf("ApplyTypos %q, %q: %q %v, not %q", a, typos, got, ok, b)
	}
}

func TestFirstTyposOfShortTexts(t *testing.T) {
	found := typoSearch{}
	texts := textsOf("abc", 4)
	for _, a := range texts {
		for _, b := range texts {
			holdTypos(t, a, b, found)
		}
	}
}

func randomText(random *rand.Rand, alphabet string, most int) string {
	text := ""
	for range random.Intn(most + 1) {
		text += string(alphabet[random.Intn(len(alphabet))])
	}
	return text
}

// longPairs returns texts that have little in common, and texts that have much.
func longPairs(random *rand.Rand, pairs int) [][2]string {
	var all [][2]string
	for range pairs {
		a, near := randomText(random, "abcde", impl.MaxTyped), ""
		for _, letter := range strings.Split(a, "") {
			near += []string{letter, letter, letter, letter, "", "x"}[random.Intn(6)]
		}
		b := randomText(random, "abcde", impl.MaxTyped)
		all = append(all, [2]string{a, b}, [2]string{a, near}, [2]string{randomText(random, "ab", impl.MaxTyped), randomText(random, "ab", impl.MaxTyped)})
	}
	return all
}

func TestFirstTyposOfLongTexts(t *testing.T) {
	for _, pair := range longPairs(rand.New(rand.NewSource(20)), 60) {
		holdTypos(t, pair[0], pair[1], typoSearch{})
	}
	for _, a := range typedSamples {
		for _, b := range typedSamples {
			holdTypos(t, a, b, typoSearch{})
		}
	}
}

func TestTyposByHand(t *testing.T) {
	for _, c := range []struct {
		a, b, typos string
		far         int
	}{
		{"cat", "cart", "kkmk", 1}, {"cart", "cat", "kklk", 1}, {"cat", "cut", "krk", 1}, {"cat", "cat", "kkk", 0}, {"", "", "", 0}, {"a", "", "l", 1}, {"", "a", "m", 1},
		{"a", "b", "r", 1}, {"ab", "ba", "lkm", 2}, {"aab", "ab", "klk", 1}, {"ab", "aab", "kmk", 1}, {"kitten", "sitting", "rkkkrkm", 3}, {"abc", "c", "llk", 2}, {"c", "abc", "mmk", 2},
		{"ab", "c", "lr", 2}, {"a", "bc", "mr", 2}, {oneLetter, "", strings.Repeat("l", 20), 20}, {"", oneLetter, strings.Repeat("m", 20), 20},
		{oneLetter, strings.Repeat("z", 20), strings.Repeat("r", 20), 20}, {oneLetter, oneLetter, strings.Repeat("k", 20), 0},
		{typedLimit, typedLimit[1:] + "a", "l" + strings.Repeat("k", 19) + "m", 2},
	} {
		if got, ok := impl.FirstTypos(c.a, c.b); got != c.typos || !ok {
			t.Errorf("FirstTypos %q, %q: %q %v, not %q", c.a, c.b, got, ok, c.typos)
		}
		if got, ok := impl.TypoDistance(c.a, c.b); got != c.far || !ok {
			t.Errorf("TypoDistance %q, %q: %d %v", c.a, c.b, got, ok)
		}
		if got, ok := impl.IsOneTypo(c.a, c.b); got != (c.far == 1) || !ok {
			t.Errorf("IsOneTypo %q, %q: %v %v", c.a, c.b, got, ok)
		}
	}
}

// typedAgain returns the text behind typos, by first counting what they use.
func typedAgain(a string, typos string, letters string) (string, bool) {
	count := func(signs string) int {
		n := 0
		for i := range len(signs) {
			n += strings.Count(typos, signs[i:i+1])
		}
		return n
	}
	if count("klmr") != len(typos) || count("klr") != len(a) || count("mr") != len(letters) || count("kmr") > impl.MaxTyped {
		return "", false
	}
	text := ""
	from, next := 0, 0
	for i := range len(typos) {
		if typos[i] == 'k' {
			text += a[from : from+1]
		}
		if typos[i] == 'm' || typos[i] == 'r' {
			text += letters[next : next+1]
			next++
		}
		if typos[i] != 'm' {
			from++
		}
	}
	return text, true
}

func TestApplyTyposOfShortTexts(t *testing.T) {
	for _, typos := range textsOf("klmrx", 5) {
		for _, a := range []string{"", "a", "ab", "aba", "aabb", "zyxwv"} {
			for _, letters := range []string{"", "b", "cc", "dab", "edcb", "aaaaa"} {
				want, can := typedAgain(a, typos, letters)
				if got, ok := impl.ApplyTypos(a, typos, letters); got != want || ok != can {
					t.Fatalf("ApplyTypos %q, %q, %q: %q %v, not %q %v", a, typos, letters, got, ok, want, can)
				}
			}
		}
	}
}

func TestApplyTyposByHand(t *testing.T) {
	k20, l20, m20, r20 := strings.Repeat("k", 20), strings.Repeat("l", 20), strings.Repeat("m", 20), strings.Repeat("r", 20)
	for _, c := range []struct{ a, typos, letters, text string }{
		{"cat", "kkmk", "r", "cart"}, {"cat", "kkk", "", "cat"}, {"", "", "", ""}, {"cat", "lll", "", ""}, {"", "mm", "ba", "ba"}, {"cat", "krk", "a", "cat"}, {"cat", "krk", "u", "cut"},
		{"cat", "rmlkm", "zyx", "zytx"}, {oneLetter, k20, "", oneLetter}, {oneLetter, r20, typedLimit, typedLimit}, {oneLetter, l20, "", ""},
		{oneLetter, m20 + l20, typedLimit, typedLimit}, {oneLetter, l20 + m20, typedLimit, typedLimit}, {oneLetter, "m" + k20[1:] + "l", "b", "b" + oneLetter[1:]},
		{oneLetter[1:], "m" + k20[1:], "b", "b" + oneLetter[1:]}, {oneLetter, strings.Repeat("lm", 20), typedLimit, typedLimit},
	} {
		if got, ok := impl.ApplyTypos(c.a, c.typos, c.letters); got != c.text || !ok {
			t.Errorf("ApplyTypos %q, %q, %q: %q %v", c.a, c.typos, c.letters, got, ok)
		}
	}
	for _, c := range [][3]string{
		{"cat", "kk", ""}, {"cat", "kkkk", ""}, {"cat", "", ""}, {"", "k", ""}, {"", "l", ""}, {"", "r", "a"}, {"cat", "kkmk", ""}, {"cat", "kkmk", "rs"}, {"cat", "kkk", "r"},
		{"cat", "kkr", ""}, {"cat", "kkrr", "ab"}, {"cat", "llll", ""}, {"", "", "a"}, {"", "m", ""}, {"", "mm", "a"}, {"", "m", "ab"},
		{"cat", "kkx", ""}, {"cat", "kkK", ""}, {"cat", "kkk ", ""}, {"cat", " kkk", ""}, {"cat", "k k", ""}, {"cat", "kké", ""}, {"cat", "kkk\x00", ""}, {"cat", "\xffkk", ""}, {"cat", "kks", "r"},
		{"cat", "éé", ""}, {oneLetter, k20 + "m", "b"}, {oneLetter, "m" + k20, "b"}, {"a", m20 + "k", typedLimit}, {"a", m20 + "r", typedLimit}, {oneLetter, k20 + "k", ""}, {oneLetter, strings.Repeat("k", 100000), ""},
		{oneLetter, m20 + k20, typedLimit},
	} {
		if got, ok := impl.ApplyTypos(c[0], c[1], c[2]); got != "" || ok {
			t.Errorf("ApplyTypos %.60q: %q %v", c, got, ok)
		}
	}
}

// partsOf returns all texts of some letters of a text, or none, in the order of the text.
func partsOf(text string) map[string]bool {
	parts := map[string]bool{}
	for _, part := range choicesOf(text) {
		parts[part] = true
	}
	return parts
}

func holdCommon(t *testing.T, a string, b string, want string) {
	t.Helper()
	if got, ok := impl.FirstCommon(a, b); got != want || !ok {
		t.Fatalf("FirstCommon %q, %q: %q %v, not %q", a, b, got, ok, want)
	}
	if got, ok := impl.CommonLength(a, b); got != len(want) || !ok {
		t.Fatalf("CommonLength %q, %q: %d %v with %q", a, b, got, ok, want)
	}
}

func holdCommonParts(t *testing.T, a string, b string, ofA map[string]bool, ofB map[string]bool) {
	t.Helper()
	want := ""
	for part := range ofA {
		if ofB[part] && (len(part) > len(want) || len(part) == len(want) && part < want) {
			want = part
		}
	}
	holdCommon(t, a, b, want)
}

func TestFirstCommonOfShortTexts(t *testing.T) {
	for _, texts := range [][]string{textsOf("abc", 4), textsOf("ab", 6)} {
		parts := map[string]map[string]bool{}
		for _, text := range texts {
			parts[text] = partsOf(text)
		}
		for _, a := range texts {
			for _, b := range texts {
				holdCommonParts(t, a, b, parts[a], parts[b])
			}
		}
	}
}

func TestFirstCommonOfLongTexts(t *testing.T) {
	random := rand.New(rand.NewSource(4))
	for range 100 {
		a, b := randomText(random, "abcd", 11), randomText(random, "abcd", 11)
		holdCommonParts(t, a, b, partsOf(a), partsOf(b))
		c, d := randomText(random, "dcba", 14), randomText(random, "abcdef", 8)
		holdCommonParts(t, c, d, partsOf(c), partsOf(d))
	}
	for _, text := range typedSamples {
		holdCommon(t, text, text, text)
		holdCommon(t, text, "", "")
		holdCommon(t, "", text, "")
	}
}

func TestFirstCommonByHand(t *testing.T) {
	for _, c := range [][3]string{
		{"abcb", "bdab", "ab"}, {"bdab", "abcb", "ab"}, {"cxcy", "cyx", "cx"}, {"ba", "ab", "a"}, {"cat", "cart", "cat"}, {"abc", "xyz", ""}, {"", "", ""}, {"az", "za", "a"},
		{oneLetter, typedLimit, oneLetter[:10]}, {typedLimit, typedLimit[1:] + "c", typedLimit[1:]}, {manyTyped, "zyxwvutsrqponmlkjihg", "g"}, {oneLetter, "b", ""},
		{"letter", "better", "etter"}, {"banana", "ananas", "anana"}, {"bab", "abba", "ab"},
	} {
		holdCommon(t, c[0], c[1], c[2])
	}
}
