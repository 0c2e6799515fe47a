package tests

import (
	"math/rand"
	"strings"
	"testing"

	"loop.example/g01350/impl"
)

func TestFirstDesk(t *testing.T) {
	if got := impl.FirstDesk(); got != desk("dog", "1379", "n") || !impl.IsDesk(got) {
		t.Error("FirstDesk", got)
	}
}

// deskStep is a line on a desk, with its reply and the desk behind it, all written out.
type deskStep struct {
	before impl.Desk
	line   string
	reply  string
	after  impl.Desk
}

func holdSteps(t *testing.T, steps []deskStep) {
	t.Helper()
	for _, step := range steps {
		after, reply, ok := impl.DeskLine(step.before, step.line)
		if after != step.after || reply != step.reply || !ok {
			t.Errorf("DeskLine %v, %q: %v %q %v, not %v %q", step.before, step.line, after, reply, ok, step.after, step.reply)
		}
	}
}

// holdReplies holds replies, by their lines, on a desk that stays as it is.
func holdReplies(t *testing.T, d impl.Desk, replies map[string]string) {
	t.Helper()
	for line, reply := range replies {
		holdSteps(t, []deskStep{{d, line, reply, d}})
	}
}

// TestChanges changes each text of a desk in each way, and nothing else.
func TestChanges(t *testing.T) {
	dog := desk("dog", "1379", "n")
	holdSteps(t, []deskStep{
		{dog, "word cab", "cab", desk("cab", "1379", "n")}, {dog, "word a", "a", desk("a", "1379", "n")}, {dog, "word " + limitWord, limitWord, desk(limitWord, "1379", "n")}, {dog, "word dog", "dog", dog},
		{dog, "dial 28", "28", desk("dog", "28", "n")}, {dog, "dial *0#", "*0#", desk("dog", "*0#", "n")}, {dog, "dial 0", "0", desk("dog", "0", "n")}, {dog, "dial " + longestDialed, longestDialed, desk("dog", longestDialed, "n")}, {dog, "dial ", "-", desk("dog", "", "n")},
		{dog, "piece k", "k", desk("dog", "1379", "k")}, {dog, "piece r", "r", desk("dog", "1379", "r")}, {dog, "piece b", "b", desk("dog", "1379", "b")}, {dog, "piece n", "n", dog}, {desk("a", "", "b"), "piece n", "n", desk("a", "", "n")},
		{dog, "first", "dmg", desk("dmg", "1379", "n")}, {desk("cab", "28", "k"), "first", "aaa", desk("aaa", "28", "k")}, {desk("zys", "", "r"), "first", "wwp", desk("wwp", "", "r")}, {desk(limitWord, "", "r"), "first", strings.Repeat("p", 40), desk(strings.Repeat("p", 40), "", "r")},
		{dog, "mirror", "3197", desk("dog", "3197", "n")}, {desk("cab", "147*0#", "k"), "mirror", "369#0*", desk("cab", "369#0*", "k")}, {desk("cab", "", "k"), "mirror", "-", desk("cab", "", "k")},
		{dog, "turn", "#*64", desk("dog", "#*64", "n")}, {desk("cab", dialSigns, "k"), "turn", turnedSigns, desk("cab", turnedSigns, "k")}, {desk("cab", "", "k"), "turn", "-", desk("cab", "", "k")},
	})
	holdReplies(t, dog, map[string]string{"show": "dog", "keys": "1379", "who": "n"})
	holdReplies(t, desk("cab", "", "b"), map[string]string{"show": "cab", "keys": "-", "who": "b"})
	holdReplies(t, desk(limitWord, longestDialed, "r"), map[string]string{"show": limitWord, "keys": longestDialed, "who": "r"})
}

func TestPressLines(t *testing.T) {
	holdReplies(t, desk("dog", "1379", "n"), map[string]string{"press": "36664", "code": "364", "same": "27", "rank": "6", "time 0": "5", "time 5": "5", "time 1000": "5"})
	holdReplies(t, desk("cab", "", "b"), map[string]string{"press": "222 2 22", "code": "222", "same": "27", "rank": "19", "time 0": "6", "time 1": "8", "time 5": "16", "time 1000": "2006", "time 1001": "!no", "time 999999": "!no"})
	holdReplies(t, desk("a", "5", "k"), map[string]string{"press": "2", "code": "2", "same": "3", "rank": "0", "time 7": "1"})
	// Words with too many words of the same keys, in front of them or behind them.
	holdReplies(t, desk(limitWord, "5", "k"), map[string]string{"code": strings.Repeat("7", 40), "press": strings.Repeat("7777 ", 39) + "7777", "same": "!no", "rank": "!no", "time 1000": "39160"})
	holdReplies(t, desk(strings.Repeat("p", 40), "5", "k"), map[string]string{"same": "!no", "rank": "0"})
}

func TestThumbLines(t *testing.T) {
	holdReplies(t, desk("dog", "1379", "n"), map[string]string{"one 5": "10", "one 1": "8", "two 4 6": "6", "two 6 4": "6", "two 1 1": "6", "plan 4 6": "0,1,0,0", "plan 6 4": "1,0,1,0", "moves 5": "lu.rr.lldd.rr.", "moves 1": ".rr.lldd.rr.", "order 5": "1397", "order 9": "9317"})
	holdReplies(t, desk("dog", "28", "n"), map[string]string{"moves 5": "u.dd.", "one 5": "3", "one *": "6", "one #": "6", "one 0": "5", "two 2 8": "0", "two 8 2": "0", "plan 2 8": "0,1", "plan 8 2": "1,0", "plan * #": "0,0", "order 0": "82"})
	// No keys make no steps.
	holdReplies(t, desk("dog", "", "n"), map[string]string{"one 5": "0", "two 4 6": "0", "plan 4 6": "-", "moves 5": "-", "order 5": "-"})
	// Seven keys are put in order, and eight are not.
	holdReplies(t, desk("dog", "1111111", "k"), map[string]string{"order 1": "1111111", "plan 1 1": "0,0,0,0,0,0,0"})
	holdReplies(t, desk("dog", "11111111", "k"), map[string]string{"order 1": "!no", "one 1": "0", "one 2": "1"})
}

func TestWalkLines(t *testing.T) {
	holdReplies(t, desk("dog", "1379", "n"), map[string]string{
		"next 4": "039", "next 5": "-", "next 0": "46", "count 4 2": "3", "count 4 1": "1", "count 5 1": "1", "count 5 2": "0", "count 5 40": "0", "count 4 0": "!no", "count 4 41": "!no", "count 4 999999": "!no",
		"far 4": "1,3,2,1,0,-1,2,3,2,1", "far 5": "-1,-1,-1,-1,-1,0,-1,-1,-1,-1", "walk 1 9": "16049", "walk 1 1": "1", "walk 5 5": "5", "walk 1 5": "!no", "walk 5 1": "!no", "ways 1 9": "3", "ways 9 9": "1", "ways 1 5": "!no", "ways 5 0": "!no",
		"once 5": "5", "all 1": "10", "all 2": "20", "all 3": "46", "all 0": "!no", "all 40": "909103725543424", "all 41": "!no", "all 999999": "!no",
	})
	holdReplies(t, desk("dog", "1379", "b"), map[string]string{"once 2": "2486", "far 2": "-1,-1,0,-1,1,-1,1,-1,2,-1", "next 0": "79", "walk 2 8": "248", "ways 2 8": "2", "walk 2 5": "!no", "count 0 2": "2"})
	holdReplies(t, desk("dog", "1379", "r"), map[string]string{"next 0": "258", "walk 0 9": "089", "ways 0 9": "1", "ways 1 9": "2", "far 0": "0,2,1,2,2,1,2,2,1,2"})
	holdReplies(t, desk("dog", "1379", "k"), map[string]string{"next 0": "789", "count 5 2": "8", "count 5 40": "!no", "all 40": "!no", "ways 1 9": "1", "walk 1 0": "1470"})
}

func TestCheckLines(t *testing.T) {
	holdReplies(t, desk("dog", "1379", "n"), map[string]string{
		"check 11:3,2 17": "5", "check 11:3,2 00": "0", "check 11:3,2 20": "5", "check 11:1 1": "X", "check 13:1 1": "!no", "check 11:3 17": "!no", "check 11:3,2 1": "!no", "check 11:3,2 1X": "!no", "check 11:3,2 175": "!no",
		"right 11:3,2 715": "not", "right 11:3,2 175": "yes", "right 11:3,2 000": "yes", "right 11:1 1X": "yes", "right 11:3,2 17": "!no", "right 11:3,2 1755": "!no", "right 11:3,2 1X5": "!no", "right 11:3,2 X": "!no", "right 2:0,0,0,0,0,0,0,0,0,0,0,0 1234567890122": "yes", "right 2:0,0,0,0,0,0,0,0,0,0,0,0 1234567890121": "not",
		"repair 11:3,2 174": "124,175,574", "repair 11:3,2 17": "!no", "repair 11:3,2 X74": "!no", "repair 13:0 0X": "00", "repair 13:0 00": "10,20,30,40,50,60,70,80,90", "repair 13:1 11": "-",
		"later 11:3,2 174": "175", "later 11:3,2 399": "40X", "later 11:3,2 17": "!no", "later 11:3,2 99X": "!no", "later 13:0 90": "!no",
		"luhn 7992739871": "3", "luhn 0": "0", "luhn 5": "9", "luhn 00000000000": "0", "luhn 000000000000": "!no", "luhn 0000000000000": "!no", "luhn X": "!no", "luhn 799273987X": "!no", "luhn XXXXXXXXXXXXX": "!no",
	})
}

// rightWords has words of each kind.
var rightWords = map[string][]string{
	"W": {"cab", "a", "z", "show", "n", limitWord}, "K": {"", "5", "28", "*0#", "000005", longestDialed}, "P": pieces, "A": strings.Split(dialSigns, ""), "B": {"1", "*", "#"}, "D": splitDigits(), "E": {"0", "5", "9"},
	"N": {"0", "1", "2", "3", "10", "40", "41", "999", "1000", "1001", "999999"}, "S": {"11:3,2", "2:0", "13:12", "13:12,12,12,12,12,12,12,12,12,12,12,12"}, "T": {"0", "X", "17", "1X", "175", "715", "17X", "7992739871", "123456789012", "1234567890123", "XXXXXXXXXXXXX", "000000000000X"},
}

// wrongWords has words of which none is of a kind.
var wrongWords = map[string][]string{
	"W": append([]string{"5", "28", "Dog", "d.g", "11:3,2", "-"}, withoutEnds(notWords)...), "K": withoutEnds(notDialed), "P": withoutEnds(notPieces), "A": withoutEnds(notDialKeys), "B": withoutEnds(notDialKeys), "D": withoutEnds(notWalkKeys), "E": withoutEnds(notWalkKeys),
	"N": {"", "-", "+", "-0", "-1", "+0", "+5", "-5", "00", "01", "007", "000000", "0000005", "1000000", "1000001", "9999999", "999999999999999999999999999", "9223372036854775807", "9223372036854775808", "18446744073709551616", "18446744073709551621", "4294967301", "1_0", "0x5", "0b1", "5e1", "5.0", "5,0", ".5", "a", "n", "X", "*", "#", "５", "٣", "é", "\x00", "5\x00", "\xff", "5\t", "\t5", "5\r"},
	"S": withoutEnds(notSchemeTexts), "T": {"", "x", "17x", "1?5", "?", "-1", "+1", "*", "#", "1,7", "1.7", "17:", "17/", "17W", "17Y", "a", "é", "１７", "\x00", "17\x00", "\xff", "12345678901234", "XXXXXXXXXXXXXX", "0000000000000X", strings.Repeat("0", 1000)},
}

// withoutEnds leaves out what no word of a line can be: texts with blanks or newlines, and those that are too long.
func withoutEnds(texts []string) []string {
	var words []string
	for _, text := range texts {
		if !strings.ContainsAny(text, " \n") && len(text) < 2900 {
			words = append(words, text)
		}
	}
	return words
}

// linesWith returns all lines with words of their kinds.
func linesWith(words string) []string {
	kinds := strings.Fields(words)
	lines := []string{kinds[0]}
	for _, kind := range kinds[1:] {
		var longer []string
		for _, line := range lines {
			for _, word := range rightWords[kind] {
				longer = append(longer, line+" "+word)
			}
		}
		lines = longer
	}
	return lines
}

// TestRightWords gives all lines all their words: no line is unknown, and each does what its call does.
func TestRightWords(t *testing.T) {
	for _, known := range deskLines {
		replies := map[string]int{}
		for _, line := range linesWith(known.words) {
			for _, d := range someDesks() {
				reply := holdLine(t, d, line)
				replies[reply]++
				if reply == "!what" {
					t.Errorf("%v, %q: %s", d, line, reply)
				}
			}
		}
		if len(replies) < 2 {
			t.Errorf("%s always replies %v", known.words, replies)
		}
	}
}

// holdWhat holds that a line is none of the table, whatever the desk.
func holdWhat(t *testing.T, line string) {
	t.Helper()
	for _, d := range someDesks()[:4] {
		if after, reply, ok := impl.DeskLine(d, line); after != d || reply != "!what" || !ok {
			t.Errorf("DeskLine %v, %.100q: %v %q %v", d, line, after, reply, ok)
		}
	}
}

// TestWrongWords exchanges each word of each line for those that are none of its kind.
func TestWrongWords(t *testing.T) {
	for _, known := range deskLines {
		for _, line := range linesWith(known.words)[:1] {
			words := strings.Split(line, " ")
			for at, kind := range strings.Fields(known.words)[1:] {
				for _, wrong := range wrongWords[kind] {
					changed := append([]string{}, words...)
					changed[at+1] = wrong
					holdWhat(t, strings.Join(changed, " "))
				}
			}
		}
	}
}

// TestCountsOfWords gives each line words too many and too few, and empty ones.
func TestCountsOfWords(t *testing.T) {
	for _, known := range deskLines {
		for _, line := range linesWith(known.words) {
			for _, more := range []string{"", " ", "5", "n", "cab", "11:3,2", "5 5"} {
				holdWhat(t, line+" "+more)
			}
			holdWhat(t, " "+line)
			holdWhat(t, strings.Replace(line, " ", "  ", 1)+" ")
			words := strings.Split(line, " ")
			for few := range words {
				holdWhat(t, strings.Join(words[:few], " "))
			}
			if len(words) > 1 && known.words != "dial K" {
				holdWhat(t, words[0]+" "+strings.Join(words[1:len(words)-1], " "))
				holdWhat(t, words[0]+strings.Repeat(" ", len(words)-1))
				holdWhat(t, words[0]+"  "+strings.Join(words[1:], " "))
			}
		}
	}
	holdWhat(t, "dial")
	holdWhat(t, "dial  ")
	holdWhat(t, "dial  5")
	holdWhat(t, "dial 5 ")
}

// TestNamesOfLines gives names that are nearly some, and those of other things.
func TestNamesOfLines(t *testing.T) {
	for _, name := range strings.Fields("fly Word DIAL pieces firsts mirro turns shown key whom pressed codes sam ranks tim on twos plans move orders nexts counter fa walks way onces al checks rights repairs late luhns dog n q 5 1379 FirstDesk PressText help exit ! !no !what - é 词 दबाएँ нажми") {
		holdWhat(t, name)
		holdWhat(t, name+" 5")
		holdWhat(t, name+" ")
	}
	for _, line := range []string{"", " ", "  ", "\t", "\r", "\x00", "press\r", "press\t", "\tpress", "press\x00", "\ufeffpress", "press\u00a0", "time\t5", "time\u00a05", "time,5", "time=5", "word\tcab", "word:cab", "word céb", "word кот", "dial ５", "piece ｎ", "next ４", "luhn １７", "press;code", "press,code", "press code", "\xff", "press\xff", "word \xff"} {
		holdWhat(t, line)
	}
}

// TestNearLines changes lines in one place: a sign less, one more, or another one.
func TestNearLines(t *testing.T) {
	d := desk("cab", "1379", "k")
	known := 0
	for _, line := range strings.Split("word ab,dial 28,piece b,first,mirror,turn,show,keys,who,press,code,same,rank,time 50,one 5,two 4 6,plan 4 6,moves 5,order 5,next 4,count 4 12,far 2,walk 1 9,ways 1 9,once 2,all 3,right 2:1 11,luhn 79", ",") {
		for at := range len(line) + 1 {
			for _, sign := range strings.Split("0159anrX*#:-+ _\x00é", "") {
				if holdLine(t, d, line[:at]+sign+line[at:]) != "!what" {
					known++
				}
				if at < len(line) {
					holdLine(t, d, line[:at]+sign+line[at+1:])
				}
			}
			if at < len(line) {
				holdLine(t, d, line[:at]+line[at+1:])
			}
		}
	}
	if known < 50 {
		t.Errorf("only %d lines are known", known)
	}
}

// TestBoundsOfNumbers reads numbers near their bounds, where calls fail that could do nothing with them.
func TestBoundsOfNumbers(t *testing.T) {
	d := desk("cab", "1379", "n")
	holdReplies(t, d, map[string]string{
		"time 0": "6", "time 999999": "!no", "time 1000000": "!what", "time 00": "!what", "time 05": "!what", "time +5": "!what", "time -5": "!what", "time -0": "!what", "time ": "!what",
		"all 1": "10", "all 0": "!no", "all 999999": "!no", "all 1000000": "!what", "all 01": "!what", "all +1": "!what", "all -1": "!what",
		"count 4 1": "1", "count 4 0": "!no", "count 4 999999": "!no", "count 4 1000000": "!what", "count 4 01": "!what", "count 4 +1": "!what", "count 4 -1": "!what",
		"count 04 1": "!what", "count * 1": "!what", "count # 1": "!what", "next *": "!what", "one X": "!what", "all *": "!what",
	})
	random := rand.New(rand.NewSource(101))
	for range 500 {
		for _, name := range []string{"time", "all", "count 4"} {
			holdLine(t, d, name+" "+randomText(random, "0123459-+", 8))
		}
	}
}

// TestNamesAsWords has the names of lines as words, and keys that could be numbers.
func TestNamesAsWords(t *testing.T) {
	for _, known := range deskLines {
		name := strings.Fields(known.words)[0]
		holdSteps(t, []deskStep{{desk("dog", "1379", "n"), "word " + name, name, desk(name, "1379", "n")}, {desk(name, "1379", "n"), "show", name, desk(name, "1379", "n")}})
		holdWhat(t, "word word "+name)
	}
	holdSteps(t, []deskStep{
		{desk("dog", "1379", "n"), "word no", "no", desk("no", "1379", "n")}, {desk("dog", "1379", "n"), "word what", "what", desk("what", "1379", "n")}, {desk("dog", "1379", "n"), "word n", "n", desk("n", "1379", "n")},
		{desk("dog", "1379", "n"), "dial 999999", "999999", desk("dog", "999999", "n")}, {desk("dog", "1379", "n"), "dial 1000000", "1000000", desk("dog", "1000000", "n")}, {desk("dog", "1379", "n"), "dial 007", "007", desk("dog", "007", "n")}, {desk("dog", "007", "n"), "keys", "007", desk("dog", "007", "n")},
	})
}

func TestRandomLines(t *testing.T) {
	random := rand.New(rand.NewSource(102))
	d := desk("dog", "1379", "n")
	seen := map[string]bool{}
	for range 20000 {
		line := randomLine(random)
		seen[holdLine(t, d, line)] = true
		d, _ = executedByHand(d, line)
	}
	if len(seen) < 1000 || !seen["!no"] || !seen["!what"] || !seen["-"] {
		t.Errorf("only %d replies", len(seen))
	}
}
