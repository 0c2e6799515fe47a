package tests

import (
	"math/rand"
	"strings"
	"testing"

	"loop.example/g01350/impl"
)

// notDesks returns desks of which the Word, the Keys or the Piece is none, and such of which several are.
func notDesks() []impl.Desk {
	desks := []impl.Desk{{}, {Word: "dog"}, {Keys: "1379"}, {Piece: "n"}, {Word: "dog", Keys: "1379"}, {Keys: "1379", Piece: "n"}, desk("1379", "dog", "n"), desk("n", "1379", "dog"), desk("dog", "n", "1379")}
	for _, word := range notWords {
		desks = append(desks, desk(word, "1379", "n"), desk(word, "", "b"))
	}
	for _, keys := range notDialed {
		desks = append(desks, desk("dog", keys, "n"), desk(limitWord, keys, "k"))
	}
	for _, piece := range notPieces {
		desks = append(desks, desk("dog", "1379", piece), desk("a", "", piece))
	}
	return desks
}

// holdNoLine holds that a line cannot be executed on a desk at all.
func holdNoLine(t *testing.T, d impl.Desk, line string) {
	t.Helper()
	if after, reply, ok := impl.DeskLine(d, line); after != (impl.Desk{}) || reply != "" || ok {
		t.Errorf("DeskLine %.60q, %.60q: %v %q %v", d, line, after, reply, ok)
	}
}

func TestIsDesk(t *testing.T) {
	for _, d := range someDesks() {
		if !impl.IsDesk(d) {
			t.Errorf("%v is a desk", d)
		}
	}
	// Keys may be none at all.
	if !impl.IsDesk(impl.Desk{Word: "dog", Piece: "n"}) {
		t.Error("a desk without keys is one")
	}
	for _, d := range notDesks() {
		if impl.IsDesk(d) {
			t.Errorf("%.60q is no desk", d)
		}
	}
}

func TestNotDesks(t *testing.T) {
	for _, d := range notDesks() {
		for _, known := range deskLines {
			holdNoLine(t, d, linesWith(known.words)[0])
		}
		for _, line := range []string{"", "fly", "word cab", "dial 28", "dial ", "piece b", "walk 1 5", "\n", strings.Repeat("x", 3001)} {
			holdNoLine(t, d, line)
		}
	}
}

// TestNotLines gives lines that hold a newline, or that are too long; just MaxScript bytes are not.
func TestNotLines(t *testing.T) {
	for _, d := range someDesks() {
		for _, line := range []string{"\n", "show\n", "\nshow", "show\nshow", "show\n\n", "word cab\n", "word\ncab", "dial \n", "fly\n", "\x00\n", strings.Repeat("x", 2999) + "\n", strings.Repeat("x", 3000) + "\n", strings.Repeat("x", 3001), strings.Repeat(" ", 3001), "word " + strings.Repeat("a", 2996), strings.Repeat("é", 1501), strings.Repeat("x", 100000), strings.Repeat("\n", 100000)} {
			holdNoLine(t, d, line)
		}
		for _, line := range []string{strings.Repeat("x", 3000), strings.Repeat(" ", 3000), "word " + strings.Repeat("a", 2995), "dial " + strings.Repeat("1", 2995), "time " + strings.Repeat("0", 2995), "time " + strings.Repeat("9", 2995), "luhn " + strings.Repeat("1", 2995), "check 11:" + strings.Repeat("1,", 1494) + "1 5", "show" + strings.Repeat(" ", 2996), strings.Repeat("é", 1500), strings.Repeat("\x00", 3000), strings.Repeat("\xff", 3000), strings.Repeat("show ", 600)} {
			if after, reply, ok := impl.DeskLine(d, line); after != d || reply != "!what" || !ok {
				t.Errorf("DeskLine %v, %.60q: %v %q %v", d, line, after, reply, ok)
			}
		}
	}
}

// TestAnyBytesAsLines has lines of any bytes, and lines of which some bytes are any.
func TestAnyBytesAsLines(t *testing.T) {
	random := rand.New(rand.NewSource(104))
	d := desk("cab", "1379", "k")
	for range 20000 {
		line := []byte(randomLine(random))
		if random.Intn(3) == 0 {
			line = make([]byte, random.Intn(60))
			random.Read(line)
		}
		for range random.Intn(3) {
			if len(line) > 0 {
				line[random.Intn(len(line))] = byte(random.Intn(256))
			}
		}
		if text := string(line); strings.Contains(text, "\n") {
			holdNoLine(t, d, text)
		} else {
			holdLine(t, d, text)
		}
	}
}

// TestAnyBytesAsDesks has desks of any bytes: lines are executed only on those that are some.
func TestAnyBytesAsDesks(t *testing.T) {
	random := rand.New(rand.NewSource(105))
	signs := "ab2*n\xff\x00 k"
	desks := 0
	for range 50000 {
		d := desk(randomText(random, signs, 3), randomText(random, signs, 3), randomText(random, signs, 2))
		is := strings.Trim(d.Word, "abnk") == "" && d.Word != "" && strings.Trim(d.Keys, "2*") == "" && (d.Piece == "b" || d.Piece == "n" || d.Piece == "k")
		if impl.IsDesk(d) != is {
			t.Errorf("IsDesk %q: %v", d, !is)
		}
		if is {
			desks++
			holdLine(t, d, randomLine(random))
		} else {
			holdNoLine(t, d, randomLine(random))
		}
	}
	if desks < 100 {
		t.Errorf("only %d desks", desks)
	}
}

// TestAnyBytesAsScripts has scripts of any bytes, some of them with many newlines.
func TestAnyBytesAsScripts(t *testing.T) {
	random := rand.New(rand.NewSource(106))
	for range 5000 {
		text := make([]byte, random.Intn(100))
		random.Read(text)
		for range random.Intn(60) {
			text = append(text, '\n')
			if random.Intn(2) == 0 {
				text = append(text, randomLine(random)...)
			}
		}
		script := string(text)
		lines := strings.Split(script, "\n")
		if lines[len(lines)-1] != "" || len(lines) > 51 || len(script) > 3000 {
			holdNoScript(t, script)
		} else {
			holdScript(t, lines[:len(lines)-1]...)
		}
	}
}
