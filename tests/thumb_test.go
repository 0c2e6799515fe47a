package tests

import (
	"math"
	"slices"
	"strings"
	"testing"

	"loop.example/g01350/impl"
)

// The keys of the pad in their order, and as they look mirrored and turned, written out apart from the program's own table.
const (
	dialSigns     = "123456789*0#"
	mirroredSigns = "321654987#0*"
	turnedSigns   = "#0*987654321"
)

var longestDialed = strings.Repeat("1#", impl.MaxDialed/2)

// notDialed are texts of every kind that are no keys.
var notDialed = []string{
	" ", "a", "x", "1 2", "12 ", " 12", "1a", "+", ",", "-", "/", ":", "!", "\"", "$", "é", "12é", "１", "\x00", "\xff", "1\n", "l", ".",
	strings.Repeat("1", impl.MaxDialed+1), longestDialed + "5", strings.Repeat("0", 100000), strings.Repeat("é", 15),
}

// notDialKeys are no single keys.
var notDialKeys = append([]string{"", "12", "11", "*#", "123456789*0#"}, notDialed...)

// dialSamples have no keys, one, one several times in a row, and just MaxDialed.
var dialSamples = []string{
	"", "1", "5", "0", "#", "11", "55555", "19", "91", "1379", "2580", "*0#", "1#1#", "147*0#963", "28",
	dialSigns, strings.Repeat("7", impl.MaxDialed), longestDialed, strings.Repeat("13*#5", 6), "314159265358979323846264338327",
}

var bothCorners = []bool{false, true}

// touch tells how two keys touch: 0 not at all, 1 at a side, 2 at a corner.
func touch(a byte, b byte) int {
	rows := [4]string{"123", "456", "789", "*0#"}
	for row, text := range rows {
		column := strings.IndexByte(text, a)
		if column < 0 {
			continue
		}
		for other, near := range rows {
			at := strings.IndexByte(near, b)
			if at < 0 {
				continue
			}
			apart := (row-other)*(row-other) + (column-at)*(column-at)
			if apart == 1 || apart == 2 {
				return apart
			}
		}
	}
	return 0
}

// stepsFrom follows steps over the pad from a key, and returns how many lead to each key.
func stepsFrom(key byte, corners bool) map[byte]int {
	steps := map[byte]int{key: 0}
	reached := []byte{key}
	for at := 0; at < len(reached); at++ {
		for i := range len(dialSigns) {
			next := dialSigns[i]
			_, seen := steps[next]
			side := touch(reached[at], next)
			if !seen && (side == 1 || side == 2 && corners) {
				steps[next] = steps[reached[at]] + 1
				reached = append(reached, next)
			}
		}
	}
	return steps
}

// dialSteps are the steps between all keys, without corners and with them.
var dialSteps = map[bool]map[byte]map[byte]int{false: allSteps(false), true: allSteps(true)}

func allSteps(corners bool) map[byte]map[byte]int {
	all := map[byte]map[byte]int{}
	for i := range len(dialSigns) {
		all[dialSigns[i]] = stepsFrom(dialSigns[i], corners)
	}
	return all
}

func stepsOf(keys string, start string, corners bool) int {
	steps := 0
	way := start + keys
	for i := range len(keys) {
		steps += dialSteps[corners][way[i]][way[i+1]]
	}
	return steps
}

func TestIsDialed(t *testing.T) {
	for _, keys := range dialSamples {
		if !impl.IsDialed(keys) {
			t.Errorf("%q are keys", keys)
		}
	}
	for _, keys := range notDialed {
		if impl.IsDialed(keys) {
			t.Errorf("%.60q are no keys", keys)
		}
	}
	for sign := range 256 {
		text := string([]byte{byte(sign)})
		if is := strings.Contains(dialSigns, text); impl.IsDialed(text) != is || impl.IsDialed("1"+text) != is {
			t.Errorf("IsDialed %q: not %v", text, is)
		}
	}
}

func TestKeyDistance(t *testing.T) {
	for _, corners := range bothCorners {
		for _, a := range strings.Split(dialSigns, "") {
			for _, b := range strings.Split(dialSigns, "") {
				want := dialSteps[corners][a[0]][b[0]]
				if got, ok := impl.KeyDistance(a, b, corners); got != want || !ok {
					t.Errorf("KeyDistance %s, %s, %v: %d %v, not %d", a, b, corners, got, ok, want)
				}
			}
		}
	}
}

func TestKeyDistanceByHand(t *testing.T) {
	for _, c := range []struct {
		a, b        string
		steps, with int
	}{
		{"1", "9", 4, 2}, {"9", "1", 4, 2}, {"1", "#", 5, 3}, {"3", "*", 5, 3}, {"2", "0", 3, 3}, {"*", "#", 2, 2},
		{"5", "5", 0, 0}, {"5", "6", 1, 1}, {"5", "1", 2, 1}, {"0", "7", 2, 1}, {"0", "5", 2, 2}, {"#", "8", 2, 1},
	} {
		if got, ok := impl.KeyDistance(c.a, c.b, false); got != c.steps || !ok {
			t.Errorf("KeyDistance %s, %s: %d %v", c.a, c.b, got, ok)
		}
		if got, ok := impl.KeyDistance(c.a, c.b, true); got != c.with || !ok {
			t.Errorf("KeyDistance %s, %s with corners: %d %v", c.a, c.b, got, ok)
		}
	}
}

// holdOneThumb holds what one thumb does against the steps between the keys, one by one.
func holdOneThumb(t *testing.T, keys string, corners bool) {
	t.Helper()
	best, fewest := "", math.MaxInt
	for _, start := range strings.Split(dialSigns, "") {
		want := stepsOf(keys, start, corners)
		if got, ok := impl.OneThumb(keys, start, corners); got != want || !ok {
			t.Fatalf("OneThumb %q, %s, %v: %d %v, not %d", keys, start, corners, got, ok, want)
		}
		if want < fewest {
			best, fewest = start, want
		}
	}
	if start, steps, ok := impl.BestStart(keys, corners); start != best || steps != fewest || !ok {
		t.Fatalf("BestStart %q, %v: %s %d %v, not %s %d", keys, corners, start, steps, ok, best, fewest)
	}
}

func holdFarthest(t *testing.T, keys string, corners bool) {
	t.Helper()
	index, far := 0, 0
	for i := 1; i < len(keys); i++ {
		if steps := dialSteps[corners][keys[i-1]][keys[i]]; steps > far {
			index, far = i-1, steps
		}
	}
	got, steps, ok := impl.FarthestNext(keys, corners)
	if got != index || steps != far || ok != (len(keys) > 1) {
		t.Fatalf("FarthestNext %q, %v: %d %d %v, not %d %d", keys, corners, got, steps, ok, index, far)
	}
}

func TestOneThumbAndFarthest(t *testing.T) {
	samples := slices.Concat(dialSamples, wordsOf(dialSigns, 1), wordsOf(dialSigns, 2), wordsOf(dialSigns, 3))
	for _, keys := range samples {
		for _, corners := range bothCorners {
			holdOneThumb(t, keys, corners)
			holdFarthest(t, keys, corners)
		}
	}
}

func TestOneThumbByHand(t *testing.T) {
	if steps, ok := impl.OneThumb("1379", "5", false); steps != 10 || !ok {
		t.Error("OneThumb", steps, ok)
	}
	if steps, ok := impl.OneThumb("1379", "5", true); steps != 7 || !ok {
		t.Error("OneThumb with corners", steps, ok)
	}
	if steps, ok := impl.OneThumb("", "5", false); steps != 0 || !ok {
		t.Error("OneThumb of no keys", steps, ok)
	}
	if steps, ok := impl.OneThumb("5555", "5", false); steps != 0 || !ok {
		t.Error("OneThumb that stays", steps, ok)
	}
	if steps, ok := impl.OneThumb(longestDialed, "#", false); steps != 150 || !ok {
		t.Error("OneThumb of the longest way", steps, ok)
	}
	if start, steps, ok := impl.BestStart("1379", false); start != "1" || steps != 8 || !ok {
		t.Error("BestStart", start, steps, ok)
	}
	if start, steps, ok := impl.BestStart("", true); start != "1" || steps != 0 || !ok {
		t.Error("BestStart of no keys", start, steps, ok)
	}
	if start, steps, ok := impl.BestStart("#", false); start != "#" || steps != 0 || !ok {
		t.Error("BestStart of one key", start, steps, ok)
	}
}

func TestFarthestNextByHand(t *testing.T) {
	for _, c := range []struct {
		keys       string
		corners    bool
		index, far int
	}{
		{"1379", false, 1, 4}, {"1379", true, 0, 2}, {"55", false, 0, 0}, {"5555", true, 0, 0}, {"551", false, 1, 2},
		{"121", false, 0, 1}, {"1#1#", false, 0, 5}, {"121#1", false, 2, 5}, {"28", false, 0, 2}, {"1902", true, 2, 3},
	} {
		if index, far, ok := impl.FarthestNext(c.keys, c.corners); index != c.index || far != c.far || !ok {
			t.Errorf("FarthestNext %s, %v: %d %d %v", c.keys, c.corners, index, far, ok)
		}
	}
	for _, keys := range []string{"", "5", "#"} {
		if index, far, ok := impl.FarthestNext(keys, false); index != 0 || far != 0 || ok {
			t.Errorf("FarthestNext %q: %d %d %v", keys, index, far, ok)
		}
	}
}

func TestKeysWithin(t *testing.T) {
	for _, corners := range bothCorners {
		for _, key := range strings.Split(dialSigns, "") {
			for far := 0; far <= 10; far++ {
				want := ""
				for _, other := range strings.Split(dialSigns, "") {
					if dialSteps[corners][key[0]][other[0]] <= far {
						want += other
					}
				}
				if got, ok := impl.KeysWithin(key, far, corners); got != want || !ok {
					t.Errorf("KeysWithin %s, %d, %v: %q %v, not %q", key, far, corners, got, ok, want)
				}
			}
			for _, far := range []int{-1, 11, -10, 12, math.MinInt, math.MaxInt} {
				if got, ok := impl.KeysWithin(key, far, corners); got != "" || ok {
					t.Errorf("KeysWithin %s, %d, %v: %q %v", key, far, corners, got, ok)
				}
			}
		}
	}
}

func TestKeysWithinByHand(t *testing.T) {
	for _, c := range []struct {
		key     string
		far     int
		corners bool
		keys    string
	}{
		{"0", 1, false, "8*0#"}, {"0", 1, true, "789*0#"}, {"5", 0, false, "5"}, {"5", 0, true, "5"}, {"5", 1, true, "123456789"},
		{"1", 4, false, "123456789*0"}, {"1", 5, false, dialSigns}, {"#", 10, false, dialSigns}, {"*", 10, true, dialSigns},
	} {
		if got, ok := impl.KeysWithin(c.key, c.far, c.corners); got != c.keys || !ok {
			t.Errorf("KeysWithin %s, %d, %v: %q %v", c.key, c.far, c.corners, got, ok)
		}
	}
}

func exchangedBy(keys string, signs string) string {
	exchanged := ""
	for i := range len(keys) {
		at := strings.IndexByte(dialSigns, keys[i])
		exchanged += signs[at : at+1]
	}
	return exchanged
}

func TestMirrorAndTurn(t *testing.T) {
	for _, keys := range append(wordsOf(dialSigns, 2), dialSamples...) {
		if got, ok := impl.MirrorKeys(keys); got != exchangedBy(keys, mirroredSigns) || !ok {
			t.Errorf("MirrorKeys %q: %q %v", keys, got, ok)
		}
		if got, ok := impl.TurnKeys(keys); got != exchangedBy(keys, turnedSigns) || !ok {
			t.Errorf("TurnKeys %q: %q %v", keys, got, ok)
		}
	}
	if got, ok := impl.MirrorKeys("14"); got != "36" || !ok {
		t.Error("MirrorKeys 14", got, ok)
	}
	if got, ok := impl.TurnKeys("14"); got != "#9" || !ok {
		t.Error("TurnKeys 14", got, ok)
	}
	if got, ok := impl.TurnKeys("28"); got != "05" || !ok {
		t.Error("TurnKeys 28", got, ok)
	}
}
