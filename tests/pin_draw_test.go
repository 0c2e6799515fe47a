package tests

import (
	"math/rand"
	"strings"
	"testing"

	"loop.example/g01350/impl"
)

const allPoints = "123456789"

// halfway is written out from the points: what lies between two of them, if anything does.
var halfway = map[string]string{
	"13": "2", "31": "2", "46": "5", "64": "5", "79": "8", "97": "8",
	"17": "4", "71": "4", "28": "5", "82": "5", "39": "6", "93": "6",
	"19": "5", "91": "5", "37": "5", "73": "5",
}

// notPatterns are texts of every kind that are no patterns.
var notPatterns = []string{
	"", " ", "0", "10", "01", "a", "*", "#", "1*", ",", "1,2", "-1", "+1", "1 2", " 12", "12 ", "12\n", "11", "55", "121", "1233", "12341", "123456781", "123456780", "1234567890",
	"1234567891", "123456789123456789", "１", "1２", "é", "\x00", "\xff", "1\xff", strings.Repeat("1", 9), strings.Repeat("123456789", 20000), strings.Repeat("é", 4),
}

// notPoints are texts that are no single points.
var notPoints = append([]string{"12", "13", "213", "987654321"}, notPatterns...)

func splitPoints() []string { return strings.Split(allPoints, "") }

// pointsBehind returns the points with which a pattern can go on, if it can be drawn.
func pointsBehind(pattern string) string {
	last := pattern[len(pattern)-1:]
	next := ""
	for _, point := range splitPoints() {
		if !strings.Contains(pattern, point) && strings.Contains(pattern, halfway[last+point]) {
			next += point
		}
	}
	return next
}

func isDrawnByHand(pattern string) bool {
	for at := 1; at < len(pattern); at++ {
		if !strings.Contains(pointsBehind(pattern[:at]), pattern[at:at+1]) {
			return false
		}
	}
	return true
}

// patternsFrom lists all texts of so many different points that begin with some, in order.
func patternsFrom(begin string, long int) []string {
	if len(begin) == long {
		return []string{begin}
	}
	var patterns []string
	for _, point := range splitPoints() {
		if !strings.Contains(begin, point) {
			patterns = append(patterns, patternsFrom(begin+point, long)...)
		}
	}
	return patterns
}

// drawnFrom lists for 1, 2, .. all points the patterns that begin at one and can be drawn, in order.
func drawnFrom(start string) [][]string {
	all := [][]string{nil, {start}}
	for long := 2; long <= impl.MaxPattern; long++ {
		var longer []string
		for _, pattern := range all[long-1] {
			for _, point := range pointsBehind(pattern) {
				longer = append(longer, pattern+string(point))
			}
		}
		all = append(all, longer)
	}
	return all
}

func holdPattern(t *testing.T, pattern string) {
	t.Helper()
	drawn := isDrawnByHand(pattern)
	if got, ok := impl.IsDrawn(pattern); got != drawn || !ok {
		t.Errorf("IsDrawn %s: %v %v, not %v", pattern, got, ok, drawn)
	}
	next := ""
	if drawn {
		next = pointsBehind(pattern)
	}
	if got, ok := impl.NextPoints(pattern); got != next || ok != drawn {
		t.Errorf("NextPoints %s: %q %v, not %q", pattern, got, ok, next)
	}
	mirror, ok := impl.MirrorDrawn(pattern)
	if mirror != mirrored(pattern) || !ok {
		t.Errorf("MirrorDrawn %s: %q %v", pattern, mirror, ok)
	}
	if got, ok := impl.IsDrawn(mirror); got != drawn || !ok {
		t.Errorf("IsDrawn %s, of %s with left and right exchanged: %v %v", mirror, pattern, got, ok)
	}
}

func TestPatternsListed(t *testing.T) {
	for long := 1; long <= 5; long++ {
		for _, pattern := range patternsFrom("", long) {
			holdPattern(t, pattern)
		}
	}
}

func TestLongPatterns(t *testing.T) {
	random := rand.New(rand.NewSource(61))
	for _, start := range splitPoints() {
		all := drawnFrom(start)
		for long := 6; long <= impl.MaxPattern; long++ {
			for range 40 {
				// One that can be drawn, and then one that mostly cannot.
				holdPattern(t, all[long][random.Intn(len(all[long]))])
				points := splitPoints()
				random.Shuffle(len(points), func(i, j int) { points[i], points[j] = points[j], points[i] })
				holdPattern(t, strings.Join(points[:long], ""))
			}
		}
	}
}

// TestDrawnPointByPoint holds that a pattern can be drawn just if its points but the last one can, and the last one is a next one.
func TestDrawnPointByPoint(t *testing.T) {
	for _, begin := range append(patternsFrom("", 3), patternsFrom("21", 6)...) {
		next, can := impl.NextPoints(begin)
		if drawn, ok := impl.IsDrawn(begin); drawn != can || !ok {
			t.Errorf("IsDrawn %s: %v %v, but NextPoints: %q %v", begin, drawn, ok, next, can)
		}
		for _, point := range splitPoints() {
			if strings.Contains(begin, point) {
				continue
			}
			if drawn, ok := impl.IsDrawn(begin + point); drawn != strings.Contains(next, point) || !ok {
				t.Errorf("IsDrawn %s: %v %v, but NextPoints of %s: %q", begin+point, drawn, ok, begin, next)
			}
		}
	}
}

func TestDrawnCounted(t *testing.T) {
	var sums [impl.MaxPattern + 1]int
	for _, start := range splitPoints() {
		for long, patterns := range drawnFrom(start) {
			if long == 0 {
				continue
			}
			sums[long] += len(patterns)
			if got, ok := impl.CountDrawn(start, long); got != len(patterns) || !ok {
				t.Errorf("CountDrawn %s, %d: %d %v, not %d", start, long, got, ok, len(patterns))
			}
			if got, ok := impl.FirstDrawn(start, long); got != patterns[0] || !ok {
				t.Errorf("FirstDrawn %s, %d: %s %v, not %s", start, long, got, ok, patterns[0])
			}
		}
	}
	for long := 1; long <= impl.MaxPattern; long++ {
		if got, ok := impl.CountAllDrawn(long); got != sums[long] || !ok {
			t.Errorf("CountAllDrawn %d: %d %v, not %d", long, got, ok, sums[long])
		}
	}
}

func TestDrawnByHand(t *testing.T) {
	for _, c := range []struct {
		pattern string
		drawn   bool
		next    string
	}{
		{"1", true, "24568"}, {"2", true, "1345679"}, {"5", true, "12346789"}, {"9", true, "24568"}, {"6", true, "1235789"},
		// A point between that was not drawn before, and then one that was.
		{"13", false, ""}, {"213", true, "4568"}, {"19", false, ""}, {"519", true, "2468"}, {"28", false, ""}, {"528", true, "134679"}, {"46", false, ""}, {"546", true, "123789"},
		{"37", false, ""}, {"71", false, ""}, {"79", false, ""}, {"93", false, ""}, {"21", true, "34568"}, {"24", true, "135789"}, {"132", false, ""},
		// None lies between these.
		{"16", true, "235789"}, {"18", true, "345679"}, {"34", true, "125789"}, {"27", true, "4568"},
		{"123456789", true, ""}, {"12345678", true, "9"}, {"987654321", true, ""}, {"135792468", false, ""}, {"213546879", true, ""}, {"573192846", false, ""}, {"519283746", true, ""},
	} {
		if got, ok := impl.IsDrawn(c.pattern); got != c.drawn || !ok {
			t.Errorf("IsDrawn %s: %v %v", c.pattern, got, ok)
		}
		if got, ok := impl.NextPoints(c.pattern); got != c.next || ok != c.drawn {
			t.Errorf("NextPoints %s: %q %v, not %q", c.pattern, got, ok, c.next)
		}
	}
}

func TestDrawnCountsByHand(t *testing.T) {
	for long, count := range []int{1: 9, 2: 56, 3: 320, 4: 1624, 5: 7152, 6: 26016, 7: 72912, 8: 140704, 9: 140704} {
		if got, ok := impl.CountAllDrawn(long); got != count || ok != (long > 0) {
			t.Errorf("CountAllDrawn %d: %d %v", long, got, ok)
		}
	}
	for _, c := range []struct {
		start       string
		long, count int
	}{
		{"1", 1, 1}, {"5", 1, 1}, {"1", 2, 5}, {"2", 2, 7}, {"5", 2, 8}, {"8", 2, 7}, {"1", 3, 31}, {"2", 3, 37}, {"5", 3, 48}, {"1", 9, 13792}, {"4", 9, 15564}, {"5", 9, 23280},
	} {
		if got, ok := impl.CountDrawn(c.start, c.long); got != c.count || !ok {
			t.Errorf("CountDrawn %s, %d: %d %v", c.start, c.long, got, ok)
		}
	}
	for i, first := range []string{"123456789", "213456789", "321456789", "412356789", "512346789", "612345789", "721345689", "812345679", "921345678"} {
		for long := 1; long <= impl.MaxPattern; long++ {
			if got, ok := impl.FirstDrawn(allPoints[i:i+1], long); got != first[:long] || !ok {
				t.Errorf("FirstDrawn %s, %d: %s %v", allPoints[i:i+1], long, got, ok)
			}
		}
	}
}

func TestMirrorDrawnByHand(t *testing.T) {
	for _, c := range []struct{ pattern, mirror string }{
		{"1", "3"}, {"2", "2"}, {"13", "31"}, {"14", "36"}, {"213", "231"}, {"258", "258"}, {"789", "987"}, {"123456789", "321654987"},
	} {
		if got, ok := impl.MirrorDrawn(c.pattern); got != c.mirror || !ok {
			t.Errorf("MirrorDrawn %s: %s %v", c.pattern, got, ok)
		}
	}
}
