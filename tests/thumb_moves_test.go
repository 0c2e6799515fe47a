package tests

import (
	"math"
	"math/rand"
	"slices"
	"strings"
	"testing"

	"loop.example/g01350/impl"
)

// dialRows and dialColumns tell the place of each key of dialSigns.
const (
	dialRows    = "000111222333"
	dialColumns = "012012012012"
)

// movesTo returns the moves from a key to another one, and the press there.
func movesTo(from byte, to byte) string {
	a, b := strings.IndexByte(dialSigns, from), strings.IndexByte(dialSigns, to)
	across, down := int(dialColumns[b])-int(dialColumns[a]), int(dialRows[b])-int(dialRows[a])
	return strings.Repeat("l", max(0, -across)) + strings.Repeat("r", max(0, across)) +
		strings.Repeat("u", max(0, -down)) + strings.Repeat("d", max(0, down)) + "."
}

func TestMovesOf(t *testing.T) {
	for _, keys := range slices.Concat(dialSamples, wordsOf(dialSigns, 1), wordsOf(dialSigns, 2)) {
		for _, start := range strings.Split(dialSigns, "") {
			want := ""
			for i := range len(keys) {
				want += movesTo((start + keys)[i], keys[i])
			}
			moves, ok := impl.MovesOf(keys, start)
			if moves != want || !ok {
				t.Fatalf("MovesOf %q, %s: %q %v, not %q", keys, start, moves, ok, want)
			}
			if steps, ok := impl.OneThumb(keys, start, false); steps != len(moves)-len(keys) || !ok {
				t.Fatalf("OneThumb %q, %s: %d %v for %q", keys, start, steps, ok, moves)
			}
			if pressed, ok := impl.KeysOfMoves(start, moves); pressed != keys || !ok {
				t.Fatalf("KeysOfMoves %s, %q: %q %v", start, moves, pressed, ok)
			}
		}
	}
}

func TestMovesOfByHand(t *testing.T) {
	for _, c := range []struct{ keys, start, moves string }{
		{"28", "5", "u.dd."}, {"", "5", ""}, {"5", "5", "."}, {"555", "5", "..."}, {"#", "1", "rrddd."}, {"1", "#", "lluuu."},
		{"*", "3", "llddd."}, {"3", "*", "rruuu."}, {"10", "0", "luuu.rddd."},
	} {
		if moves, ok := impl.MovesOf(c.keys, c.start); moves != c.moves || !ok {
			t.Errorf("MovesOf %q, %s: %q %v", c.keys, c.start, moves, ok)
		}
	}
	if moves, ok := impl.MovesOf(longestDialed, "#"); len(moves) != 180 || !ok {
		t.Error("MovesOf the longest way", len(moves), ok)
	}
}

// pressedBy follows moves over the rows of the pad, and tells whether all of them stay on it.
func pressedBy(start string, moves string) (string, bool) {
	pad := [6]string{"     ", " 123 ", " 456 ", " 789 ", " *0# ", "     "}
	at := strings.Index(dialSigns, start)
	row, column := int(dialRows[at]-'0')+1, int(dialColumns[at]-'0')+1
	pressed := ""
	for _, move := range moves {
		switch move {
		case 'l':
			column--
		case 'r':
			column++
		case 'u':
			row--
		case 'd':
			row++
		case '.':
			pressed += pad[row][column : column+1]
		default:
			return "", false
		}
		if pad[row][column] == ' ' {
			return "", false
		}
	}
	return pressed, true
}

func TestKeysOfMoves(t *testing.T) {
	for _, start := range strings.Split(dialSigns, "") {
		for count := 0; count <= 5; count++ {
			for _, moves := range wordsOf("lrud.", count) {
				keys, is := pressedBy(start, moves)
				if got, ok := impl.KeysOfMoves(start, moves); got != keys || ok != is {
					t.Fatalf("KeysOfMoves %s, %q: %q %v, not %q %v", start, moves, got, ok, keys, is)
				}
			}
		}
	}
}

func TestKeysOfMovesByHand(t *testing.T) {
	for _, c := range []struct{ start, moves, keys string }{
		{"5", "u.dd.", "28"}, {"5", "", ""}, {"5", "lr", ""}, {"5", ".", "5"}, {"1", "drdrd.", "#"}, {"1", "rdlu.ddd.", "1*"},
		{"#", "..l.l.uuu.", "##0*1"}, {"5", ".ud.", "55"},
	} {
		if keys, ok := impl.KeysOfMoves(c.start, c.moves); keys != c.keys || !ok {
			t.Errorf("KeysOfMoves %s, %q: %q %v", c.start, c.moves, keys, ok)
		}
	}
	for _, c := range []struct{ start, moves string }{
		{"1", "l"}, {"1", "u"}, {"3", "r"}, {"3", "u"}, {"*", "l"}, {"*", "d"}, {"#", "r"}, {"#", "d"}, {"4", "l."}, {"6", "r."}, {"0", "d"},
		{"2", "u."}, {"1", ".lr."}, {"5", "uu"}, {"5", "ddd"}, {"5", "dddu."}, {"7", "l"}, {"9", "r"}, {"4", ".l"}, {"1", "lll"},
		{"5", "x"}, {"5", "L"}, {"5", "U."}, {"5", " "}, {"5", "u. "}, {"5", "u.5"}, {"5", ","}, {"5", "\n"}, {"5", "\x00"}, {"5", "\xff"},
		{"5", "u.é"}, {"5", "…"},
	} {
		if keys, ok := impl.KeysOfMoves(c.start, c.moves); keys != "" || ok {
			t.Errorf("KeysOfMoves %s, %q: %q %v", c.start, c.moves, keys, ok)
		}
	}
}

func TestKeysOfMovesLimits(t *testing.T) {
	presses := strings.Repeat(".", impl.MaxDialed)
	for moves, keys := range map[string]string{
		strings.Repeat("lr", 100):                          "",
		strings.Repeat("ud", 85) + presses:                 strings.Repeat("5", impl.MaxDialed),
		strings.Repeat("u.d.", 15):                         strings.Repeat("25", 15),
		presses:                                            strings.Repeat("5", impl.MaxDialed),
		strings.Repeat("lr", 99) + ".u":                    "5",
		strings.Repeat("udud", 49) + "d...":                "888",
		"d" + strings.Repeat("ud", 84) + presses:           strings.Repeat("8", impl.MaxDialed),
		presses[1:] + strings.Repeat("du", 85):             strings.Repeat("5", impl.MaxDialed-1),
		presses + strings.Repeat("du", 85):                 strings.Repeat("5", impl.MaxDialed),
		strings.Repeat(".", 15) + strings.Repeat("lr", 92): strings.Repeat("5", 15),
	} {
		if got, ok := impl.KeysOfMoves("5", moves); got != keys || !ok {
			t.Errorf("KeysOfMoves of %d signs, %q: %q %v, not %q", len(moves), moves, got, ok, keys)
		}
	}
	for _, moves := range []string{
		strings.Repeat("lr", 100) + "l", strings.Repeat("lr", 100) + ".", strings.Repeat("ud", 85) + presses + "l",
		presses + ".", "u" + presses + ".", presses + "u.", presses + "l.r.", strings.Repeat(".", 200), strings.Repeat("ud", 84) + presses + "..",
		strings.Repeat("lr", 50000), strings.Repeat(".", 100000), strings.Repeat(".", 201),
	} {
		if got, ok := impl.KeysOfMoves("5", moves); got != "" || ok {
			t.Errorf("KeysOfMoves of %d signs: %q %v", len(moves), got, ok)
		}
	}
}

// ordersOf returns all orders of keys as texts.
func ordersOf(keys string) []string {
	if keys == "" {
		return []string{""}
	}
	var orders []string
	for i := range len(keys) {
		for _, order := range ordersOf(keys[:i] + keys[i+1:]) {
			orders = append(orders, keys[i:i+1]+order)
		}
	}
	return orders
}

func comesBefore(a string, b string) bool {
	for i := range len(a) {
		if a[i] != b[i] {
			return strings.IndexByte(dialSigns, a[i]) < strings.IndexByte(dialSigns, b[i])
		}
	}
	return false
}

func holdOrder(t *testing.T, keys string, start string, corners bool) {
	t.Helper()
	best, fewest := "", math.MaxInt
	for _, order := range ordersOf(keys) {
		steps := stepsOf(order, start, corners)
		if steps < fewest || steps == fewest && comesBefore(order, best) {
			best, fewest = order, steps
		}
	}
	if order, steps, ok := impl.LeastOrder(keys, start, corners); order != best || steps != fewest || !ok {
		t.Fatalf("LeastOrder %q, %s, %v: %q %d %v, not %q %d", keys, start, corners, order, steps, ok, best, fewest)
	}
}

func TestLeastOrder(t *testing.T) {
	random := rand.New(rand.NewSource(5))
	for _, corners := range bothCorners {
		for _, start := range strings.Split(dialSigns, "") {
			for count := 0; count <= 2; count++ {
				for _, keys := range wordsOf(dialSigns, count) {
					holdOrder(t, keys, start, corners)
				}
			}
			for count := 3; count <= 6; count++ {
				for range 8 {
					holdOrder(t, randomKeys(random, count), start, corners)
				}
			}
		}
		for _, keys := range []string{"1234567", "*0#*0#*", "5555555", "#0*9876", "1379*05", "2468013"} {
			holdOrder(t, keys, "5", corners)
			holdOrder(t, keys, "#", corners)
		}
	}
}

func TestLeastOrderByHand(t *testing.T) {
	for _, c := range []struct {
		keys, start string
		corners     bool
		order       string
		steps       int
	}{
		{"1937", "5", false, "1397", 8}, {"", "5", false, "", 0}, {"7", "5", false, "7", 2}, {"555", "5", true, "555", 0},
		{"82", "5", false, "28", 3}, {"#*", "0", false, "*#", 3}, {"0*", "8", true, "*0", 2}, {"0#", "8", true, "0#", 2}, {"9#*0", "0", true, "9#0*", 4},
		{"5151", "5", false, "5511", 2},
	} {
		if order, steps, ok := impl.LeastOrder(c.keys, c.start, c.corners); order != c.order || steps != c.steps || !ok {
			t.Errorf("LeastOrder %q, %s, %v: %q %d %v", c.keys, c.start, c.corners, order, steps, ok)
		}
	}
}

func TestTooManyReordered(t *testing.T) {
	for count := impl.MaxReordered + 1; count <= impl.MaxDialed+1; count++ {
		for _, key := range []string{"5", "1"} {
			if order, steps, ok := impl.LeastOrder(strings.Repeat(key, count), "5", false); order != "" || steps != 0 || ok {
				t.Errorf("LeastOrder of %d keys: %q %d %v", count, order, steps, ok)
			}
		}
	}
}
