package tests

import (
	"math/rand"
	"slices"
	"strings"
	"testing"

	"loop.example/g01350/impl"
)

const walkDigits = "0123456789"

var pieces = []string{"n", "k", "r", "b"}

// goings are written out from the pad: for each piece where it goes from 0, 1, .. 9.
var goings = map[string][10]string{
	"n": {"46", "68", "79", "48", "039", "", "017", "26", "13", "24"},
	"k": {"789", "245", "13456", "256", "12578", "12346789", "23589", "0458", "045679", "0568"},
	"r": {"258", "2347", "01358", "1269", "1567", "02468", "3459", "1489", "02579", "3678"},
	"b": {"79", "59", "46", "57", "28", "1379", "28", "035", "46", "015"},
}

// notPieces are texts of every kind that are no pieces.
var notPieces = []string{"", " ", "q", "p", "N", "K", "R", "B", "nk", "kr", "nkrb", "nn", "n ", " n", "0", "5", ",", "ñ", "\x00", "\xff", "b\n", strings.Repeat("n", 100000)}

// notWalked are texts of every kind that are no walk of any piece, as they are not 1..MaxWalked digits.
var notWalked = []string{
	"", " ", "*", "#", "a", "-", "/", ":", "+1", "-1", "1 6", "16 ", " 16", "16\n", "1a", "7*", "*7", "0#", "*0", "8*", "８", "１", "é", "\x00", "\xff", "n",
	strings.Repeat("16", impl.MaxWalked/2) + "1", strings.Repeat("1", impl.MaxWalked+1), strings.Repeat("0", 100000), strings.Repeat("é", 20),
}

// notWalkKeys are no single digits.
var notWalkKeys = append([]string{"12", "00", "16", "0123456789"}, notWalked...)

func splitDigits() []string { return strings.Split(walkDigits, "") }

func goesFrom(piece string, key byte) string { return goings[piece][key-'0'] }

func isGone(piece string, walk string) bool {
	for i := 1; i < len(walk); i++ {
		if strings.IndexByte(goesFrom(piece, walk[i-1]), walk[i]) < 0 {
			return false
		}
	}
	return true
}

// walksFrom lists all walks of so many digits from a key, in order.
func walksFrom(piece string, key string, long int) []string {
	walks := []string{key}
	for range long - 1 {
		var longer []string
		for _, walk := range walks {
			for _, next := range strings.Split(goesFrom(piece, walk[len(walk)-1]), "") {
				longer = append(longer, walk+next)
			}
		}
		walks = longer
	}
	return walks
}

// stroll goes on from a walk by chance as far as this goes, up to so many digits.
func stroll(random *rand.Rand, piece string, walk string, long int) string {
	for len(walk) < long {
		nexts := goesFrom(piece, walk[len(walk)-1])
		if nexts == "" {
			return walk
		}
		walk += string(nexts[random.Intn(len(nexts))])
	}
	return walk
}

func TestNextKeys(t *testing.T) {
	for _, piece := range pieces {
		for _, key := range splitDigits() {
			if got, ok := impl.NextKeys(piece, key); got != goesFrom(piece, key[0]) || !ok {
				t.Errorf("NextKeys %s, %s: %q %v, not %q", piece, key, got, ok, goesFrom(piece, key[0]))
			}
		}
	}
}

func TestNextKeysGoBothWays(t *testing.T) {
	for _, piece := range pieces {
		for _, from := range splitDigits() {
			nexts, _ := impl.NextKeys(piece, from)
			for _, to := range splitDigits() {
				back, ok := impl.NextKeys(piece, to)
				if strings.Contains(nexts, to) != strings.Contains(back, from) || !ok {
					t.Errorf("NextKeys %s, %s: %q, but of %s: %q", piece, from, nexts, to, back)
				}
			}
			if strings.Contains(nexts, from) {
				t.Errorf("NextKeys %s, %s stays: %q", piece, from, nexts)
			}
		}
	}
}

// holdWalk holds what is told about a text, whatever it is, against where the pieces go.
func holdWalk(t *testing.T, text string) {
	t.Helper()
	var who []string
	valid := !slices.Contains(notWalked, text)
	for _, piece := range pieces {
		is := valid && isGone(piece, text)
		if got, ok := impl.IsWalk(piece, text); got != is || !ok {
			t.Errorf("IsWalk %s, %.60q: %v %v", piece, text, got, ok)
		}
		if is {
			who = append(who, piece)
		}
	}
	if got, ok := impl.WhoDials(text); !slices.Equal(got, who) || ok != valid {
		t.Errorf("WhoDials %.60q: %q %v, not %q", text, got, ok, who)
	}
}

func TestWalksOfPieces(t *testing.T) {
	for _, text := range textsOf(walkDigits, 3) {
		if text != "" {
			holdWalk(t, text)
		}
	}
	for _, text := range notWalked {
		holdWalk(t, text)
	}
	random := rand.New(rand.NewSource(51))
	for _, piece := range pieces {
		for range 200 {
			walk := stroll(random, piece, string(walkDigits[random.Intn(10)]), impl.MaxWalked)
			holdWalk(t, walk)
			holdWalk(t, walk[:1+random.Intn(len(walk))])
			at := random.Intn(len(walk))
			holdWalk(t, walk[:at]+string(walkDigits[random.Intn(10)])+walk[at+1:])
			if len(walk) == impl.MaxWalked {
				if got, ok := impl.IsWalk(piece, walk+goesFrom(piece, walk[len(walk)-1])[:1]); got || !ok {
					t.Errorf("IsWalk %s, %s with a digit more: %v %v", piece, walk, got, ok)
				}
			}
		}
	}
}

func TestWhoDialsByHand(t *testing.T) {
	for _, c := range []struct{ walk, who string }{
		{"123", "kr"}, {"0", "nkrb"}, {"5", "nkrb"}, {"16", "n"}, {"15", "kb"}, {"12", "kr"}, {"13", "r"}, {"19", "b"}, {"08", "kr"}, {"05", "r"}, {"07", "kb"},
		{"11", ""}, {"00", ""}, {"01", ""}, {"1619", ""}, {"1520", ""}, {"16049", "n"}, {"2486", "kb"}, {"0735", "b"}, {"70", "kb"}, {"74", "kr"}, {"79", "r"},
		{strings.Repeat("16", impl.MaxWalked/2), "n"}, {strings.Repeat("59", impl.MaxWalked/2), "kb"}, {strings.Repeat("1", impl.MaxWalked), ""},
	} {
		got, ok := impl.WhoDials(c.walk)
		if strings.Join(got, "") != c.who || !ok {
			t.Errorf("WhoDials %s: %q %v", c.walk, got, ok)
		}
		for _, piece := range pieces {
			if is, ok := impl.IsWalk(piece, c.walk); is != strings.Contains(c.who, piece) || !ok {
				t.Errorf("IsWalk %s, %s: %v %v", piece, c.walk, is, ok)
			}
		}
	}
}

func TestWhoDialsIsNew(t *testing.T) {
	for range 2 {
		who, _ := impl.WhoDials("5")
		far, _ := impl.KeyDistances("b", "2")
		if !slices.Equal(who, pieces) || !slices.Equal(far, []int{-1, -1, 0, -1, 1, -1, 1, -1, 2, -1}) {
			t.Fatal("WhoDials and KeyDistances:", who, far)
		}
		for i := range who[:cap(who)] {
			who[:cap(who)][i] = "q"
		}
		for i := range far[:cap(far)] {
			far[:cap(far)][i] = 9
		}
	}
}

// mirrored exchanges left and right by what is written out here, digit by digit.
func mirrored(walk string) string {
	return strings.NewReplacer("1", "3", "3", "1", "4", "6", "6", "4", "7", "9", "9", "7").Replace(walk)
}

func holdMirrored(t *testing.T, walk string) {
	t.Helper()
	got, ok := impl.MirrorWalk(walk)
	if got != mirrored(walk) || !ok {
		t.Errorf("MirrorWalk %s: %q %v", walk, got, ok)
	}
	if back, ok := impl.MirrorWalk(got); back != walk || !ok {
		t.Errorf("MirrorWalk %s is %s, but not back: %q %v", walk, got, back, ok)
	}
	who, _ := impl.WhoDials(walk)
	if others, ok := impl.WhoDials(got); !slices.Equal(who, others) || !ok {
		t.Errorf("%s is dialled by %q, but %s by %q", walk, who, got, others)
	}
}

func TestMirrorWalk(t *testing.T) {
	for _, text := range textsOf(walkDigits, 3) {
		if text != "" {
			holdMirrored(t, text)
		}
	}
	random := rand.New(rand.NewSource(52))
	for range 100 {
		walk := ""
		for range impl.MaxWalked {
			walk += string(walkDigits[random.Intn(10)])
		}
		holdMirrored(t, walk)
		holdMirrored(t, walk[:1+random.Intn(len(walk))])
	}
	// More digits than chapter 3 has for keys.
	if got, ok := impl.MirrorWalk("0123456789012345678901234567890123456789"); got != "0321654987032165498703216549870321654987" || !ok {
		t.Errorf("MirrorWalk of %d digits: %q %v", impl.MaxWalked, got, ok)
	}
}
