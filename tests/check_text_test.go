package tests

import (
	"math/rand"
	"slices"
	"strings"
	"testing"

	"loop.example/g01350/impl"
)

// schemeNumbers has the texts of all numbers that schemes have.
var schemeNumbers = strings.Fields("0 1 2 3 4 5 6 7 8 9 10 11 12 13")

func schemeTextByHand(s impl.Scheme) string {
	text := schemeNumbers[s.Mod]
	sign := ":"
	for _, weight := range s.Weights {
		text += sign + schemeNumbers[weight]
		sign = ","
	}
	return text
}

func sameScheme(a impl.Scheme, b impl.Scheme) bool {
	return a.Mod == b.Mod && slices.Equal(a.Weights, b.Weights)
}

func holdSchemeText(t *testing.T, s impl.Scheme) {
	t.Helper()
	text, ok := impl.SchemeText(s)
	if text != schemeTextByHand(s) || !ok {
		t.Errorf("SchemeText %v: %q %v", s, text, ok)
	}
	if read, ok := impl.ParseScheme(text); !sameScheme(read, s) || !ok {
		t.Errorf("ParseScheme %q: %v %v, not %v", text, read, ok, s)
	}
}

func TestSchemeText(t *testing.T) {
	random := rand.New(rand.NewSource(82))
	schemes := append(smallSchemes(), longSchemes(random, 100)...)
	for mod := 2; mod <= impl.MaxMod; mod++ {
		schemes = append(schemes, sameWeights(mod, 0, impl.MaxDigits), sameWeights(mod, mod-1, impl.MaxDigits))
	}
	for _, s := range schemes {
		holdSchemeText(t, s)
	}
}

func TestSchemeTextByHand(t *testing.T) {
	for _, c := range []struct {
		s    impl.Scheme
		text string
	}{
		{schemeOf(11, 3, 2), "11:3,2"}, {schemeOf(10, 5, 1), "10:5,1"}, {schemeOf(2, 0), "2:0"}, {schemeOf(2, 1), "2:1"}, {schemeOf(13, 12), "13:12"}, {schemeOf(12, 11, 10, 0), "12:11,10,0"},
		{sameWeights(13, 12, 12), "13:12,12,12,12,12,12,12,12,12,12,12,12"}, {sameWeights(2, 0, 12), "2:0,0,0,0,0,0,0,0,0,0,0,0"},
	} {
		if text, ok := impl.SchemeText(c.s); text != c.text || !ok {
			t.Errorf("SchemeText %v: %q %v", c.s, text, ok)
		}
		if s, ok := impl.ParseScheme(c.text); !sameScheme(s, c.s) || !ok {
			t.Errorf("ParseScheme %q: %v %v", c.text, s, ok)
		}
	}
}

// TestParseShort holds all short texts of some signs: just those that schemes have are read.
func TestParseShort(t *testing.T) {
	known := map[string]impl.Scheme{}
	for mod := 2; mod <= impl.MaxMod; mod++ {
		for weights := 1; weights <= 3; weights++ {
			for _, s := range schemesWith(mod, weights) {
				known[schemeTextByHand(s)] = s
			}
		}
	}
	read := 0
	for _, text := range append(textsOf("0123:,- +", 6), textsOf("12:,", 8)...) {
		want, is := known[text]
		got, ok := impl.ParseScheme(text)
		if !sameScheme(got, want) || ok != is {
			t.Errorf("ParseScheme %q: %v %v, not %v %v", text, got, ok, want, is)
		}
		if ok {
			read++
		}
	}
	if read < 100 {
		t.Errorf("only %d texts are read", read)
	}
}

// notSchemeTexts are texts of no scheme, most of them nearly one.
var notSchemeTexts = []string{
	"", ":", ",", "11", "11:", ":3,2", "3,2", "11:3,2,", "11:,3,2", "11:3,,2", "11:3;2", "11;3,2", "11::3,2", "11:3:2", "11:3,2:", "11:3,2\n", "\n11:3,2", "11:3,2\x00", "11.0:3,2", "11:3.0,2", "b:3,2", "0xb:3,2", "11:3,x",
	// Leading zeros, spaces and signs.
	"011:3,2", "11:03,2", "11:3,02", "11:00,2", "11:3,00", " 11:3,2", "11 :3,2", "11: 3,2", "11:3 ,2", "11:3, 2", "11:3,2 ", "+11:3,2", "11:+3,2", "11:3,+2", "11:-0,2", "11:3,-0", "-11:3,2", "11:-3,2", "11:3,-2", "1_1:3,2", "12:1_0", "12:1_1,0", "11:３,２",
	// Numbers out of bounds.
	"0:0", "1:0", "14:0", "14:3,2", "-2:0", "-1:-2", "11:11", "11:3,11", "11:12,2", "11:-1", "2:2", "2:0,2", "13:13", "13:12,13", "100:1", "11:100", "111:3,2", "9223372036854775807:0", "9223372036854775808:0", "18446744073709551627:3,2", "4294967307:3,2", "11:18446744073709551617", "11:4294967299,2",
	"11:9223372036854775808", "99999999999999999999999:0", "11:99999999999999999999999",
	// One weight too many, and many more.
	"13:1,2,3,4,5,6,7,8,9,10,11,12,0", "2:0,0,0,0,0,0,0,0,0,0,0,0,0", "2:0,0,0,0,0,0,0,0,0,0,0,0,", "2:" + strings.Repeat("0,", 100000) + "0", strings.Repeat("1", 100000) + ":0", "11:" + strings.Repeat("1", 100000), strings.Repeat(",", 100000), strings.Repeat(":", 100000),
	"11:3,2é", "é", "\xff", "\xff:0", "2:\xff",
}

func TestNotSchemeTexts(t *testing.T) {
	for _, text := range notSchemeTexts {
		if s, ok := impl.ParseScheme(text); s.Mod != 0 || s.Weights != nil || ok {
			t.Errorf("ParseScheme %.60q: %v %v", text, s, ok)
		}
	}
}

// TestSchemesAreNew writes into a scheme that was read, and into the room behind its weights: later ones may not change by this.
func TestSchemesAreNew(t *testing.T) {
	for range 2 {
		s, ok := impl.ParseScheme("11:3,2")
		if !sameScheme(s, schemeOf(11, 3, 2)) || !ok {
			t.Fatal("ParseScheme", s, ok)
		}
		s.Mod = 7
		for i := range s.Weights[:cap(s.Weights)] {
			s.Weights[:cap(s.Weights)][i] = 99
		}
	}
}
