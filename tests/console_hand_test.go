package tests

import (
	"fmt"
	"math/rand"
	"regexp"
	"slices"
	"strings"
	"testing"

	"loop.example/g01350/impl"
)

// kindSigns are patterns of the words of lines, by the letters of the document.
var kindSigns = map[string]string{
	"N": `(0|[1-9][0-9]{0,5})`, "W": `([a-z]{1,40})`, "K": `([0-9*#]{0,30})`, "A": `([0-9*#])`, "B": `([0-9*#])`, "P": `([nkrb])`, "D": `([0-9])`, "E": `([0-9])`, "S": `(` + schemeSigns() + `)`, "T": `([0-9X]{1,13})`,
}

// schemeSigns is a pattern of the texts of all schemes.
func schemeSigns() string {
	weights := map[int]string{2: "[01]", 3: "[0-2]", 4: "[0-3]", 5: "[0-4]", 6: "[0-5]", 7: "[0-6]", 8: "[0-7]", 9: "[0-8]", 10: "[0-9]", 11: "(?:[0-9]|10)", 12: "(?:[0-9]|1[01])", 13: "(?:[0-9]|1[0-2])"}
	var signs []string
	for mod := 2; mod <= impl.MaxMod; mod++ {
		signs = append(signs, fmt.Sprintf("%d:%s(?:,%s){0,11}", mod, weights[mod], weights[mod]))
	}
	return strings.Join(signs, "|")
}

// lineByHand is a line of the document's table: its name and words, a pattern of such lines, and what is called for one, given what the pattern takes out of it.
type lineByHand struct {
	words   string
	pattern *regexp.Regexp
	does    func(d *impl.Desk, told []string) (string, bool)
}

func lineTold(words string, does func(d *impl.Desk, told []string) (string, bool)) lineByHand {
	signs := strings.Fields(words)
	for at, kind := range signs[1:] {
		signs[at+1] = kindSigns[kind]
	}
	return lineByHand{words, regexp.MustCompile(`\A` + strings.Join(signs, " ") + `\z`), does}
}

// asReply tells the result of a call as a reply does.
func asReply(result any, ok bool) (string, bool) {
	switch told := result.(type) {
	case bool:
		return map[bool]string{true: "yes", false: "not"}[told], ok
	case []string:
		return strings.Join(told, ","), ok
	case []int:
		return strings.Trim(strings.ReplaceAll(fmt.Sprint(told), " ", ","), "[]"), ok
	}
	return fmt.Sprint(result), ok
}

// numberIn returns a number of at most six digits.
func numberIn(text string) int {
	number := 0
	for at := range len(text) {
		number = 10*number + strings.IndexByte(walkDigits, text[at])
	}
	return number
}

func schemeIn(text string) impl.Scheme {
	s, _ := impl.ParseScheme(text)
	return s
}

// deskChanges are the lines that have an effect, and those that show what these change.
var deskChanges = []lineByHand{
	lineTold("word W", func(d *impl.Desk, told []string) (string, bool) { d.Word = told[0]; return told[0], true }),
	lineTold("dial K", func(d *impl.Desk, told []string) (string, bool) { d.Keys = told[0]; return told[0], true }),
	lineTold("piece P", func(d *impl.Desk, told []string) (string, bool) { d.Piece = told[0]; return told[0], true }),
	lineTold("first", func(d *impl.Desk, told []string) (string, bool) {
		keys, _ := impl.KeysOf(d.Word)
		first, ok := impl.FirstWord(keys)
		d.Word = first
		return first, ok
	}),
	lineTold("mirror", func(d *impl.Desk, told []string) (string, bool) {
		keys, ok := impl.MirrorKeys(d.Keys)
		d.Keys = keys
		return keys, ok
	}),
	lineTold("turn", func(d *impl.Desk, told []string) (string, bool) {
		keys, ok := impl.TurnKeys(d.Keys)
		d.Keys = keys
		return keys, ok
	}),
	lineTold("show", func(d *impl.Desk, told []string) (string, bool) { return d.Word, true }),
	lineTold("keys", func(d *impl.Desk, told []string) (string, bool) { return d.Keys, true }),
	lineTold("who", func(d *impl.Desk, told []string) (string, bool) { return d.Piece, true }),
}

// deskQuestions are the lines that only call.
var deskQuestions = []lineByHand{
	lineTold("press", func(d *impl.Desk, told []string) (string, bool) { return asReply(impl.PressText(d.Word)) }),
	lineTold("code", func(d *impl.Desk, told []string) (string, bool) { return asReply(impl.KeysOf(d.Word)) }),
	lineTold("same", func(d *impl.Desk, told []string) (string, bool) {
		keys, _ := impl.KeysOf(d.Word)
		return asReply(impl.CountSameKeys(keys))
	}),
	lineTold("rank", func(d *impl.Desk, told []string) (string, bool) { return asReply(impl.RankOfWord(d.Word)) }),
	lineTold("time N", func(d *impl.Desk, told []string) (string, bool) {
		return asReply(impl.TimeFor(d.Word, 1, numberIn(told[0])))
	}),
	lineTold("one A", func(d *impl.Desk, told []string) (string, bool) {
		return asReply(impl.OneThumb(d.Keys, told[0], false))
	}),
	lineTold("two A B", func(d *impl.Desk, told []string) (string, bool) {
		return asReply(impl.TwoThumbs(d.Keys, told[0], told[1], false))
	}),
	lineTold("plan A B", func(d *impl.Desk, told []string) (string, bool) {
		return asReply(impl.FirstThumbs(d.Keys, told[0], told[1], false))
	}),
	lineTold("moves A", func(d *impl.Desk, told []string) (string, bool) { return asReply(impl.MovesOf(d.Keys, told[0])) }),
	lineTold("order A", func(d *impl.Desk, told []string) (string, bool) {
		order, _, ok := impl.LeastOrder(d.Keys, told[0], false)
		return order, ok
	}),
	lineTold("next D", func(d *impl.Desk, told []string) (string, bool) { return asReply(impl.NextKeys(d.Piece, told[0])) }),
	lineTold("count D N", func(d *impl.Desk, told []string) (string, bool) {
		return asReply(impl.CountNumbers(d.Piece, told[0], numberIn(told[1])))
	}),
	lineTold("far D", func(d *impl.Desk, told []string) (string, bool) { return asReply(impl.KeyDistances(d.Piece, told[0])) }),
	lineTold("walk D E", func(d *impl.Desk, told []string) (string, bool) {
		return asReply(impl.FirstWalk(d.Piece, told[0], told[1]))
	}),
	lineTold("ways D E", func(d *impl.Desk, told []string) (string, bool) {
		return asReply(impl.CountShortest(d.Piece, told[0], told[1]))
	}),
	lineTold("once D", func(d *impl.Desk, told []string) (string, bool) { return asReply(impl.LongestOnce(d.Piece, told[0])) }),
	lineTold("all N", func(d *impl.Desk, told []string) (string, bool) {
		return asReply(impl.CountAllNumbers(d.Piece, numberIn(told[0])))
	}),
	lineTold("check S T", func(d *impl.Desk, told []string) (string, bool) {
		return asReply(impl.CheckOf(schemeIn(told[0]), told[1]))
	}),
	lineTold("right S T", func(d *impl.Desk, told []string) (string, bool) {
		return asReply(impl.IsRight(schemeIn(told[0]), told[1]))
	}),
	lineTold("repair S T", func(d *impl.Desk, told []string) (string, bool) {
		return asReply(impl.RepairsOf(schemeIn(told[0]), told[1]))
	}),
	lineTold("later S T", func(d *impl.Desk, told []string) (string, bool) {
		return asReply(impl.NextRight(schemeIn(told[0]), told[1]))
	}),
	lineTold("luhn T", func(d *impl.Desk, told []string) (string, bool) { return asReply(impl.DoubledCheck(told[0])) }),
}

// deskLines are all lines of the document's table.
var deskLines = slices.Concat(deskChanges, deskQuestions)

// executedByHand returns the desk behind a line and its reply.
func executedByHand(d impl.Desk, line string) (impl.Desk, string) {
	for _, known := range deskLines {
		told := known.pattern.FindStringSubmatch(line)
		if told == nil {
			continue
		}
		after := d
		reply, ok := known.does(&after, told[1:])
		if !ok {
			return d, "!no"
		}
		if reply == "" {
			reply = "-"
		}
		return after, reply
	}
	return d, "!what"
}

// holdLine holds a line on a desk against what is done by hand, and returns the reply.
func holdLine(t *testing.T, d impl.Desk, line string) string {
	t.Helper()
	after, reply := executedByHand(d, line)
	gotAfter, got, ok := impl.DeskLine(d, line)
	if gotAfter != after || got != reply || !ok {
		t.Errorf("DeskLine %v, %.100q: %v %q %v, not %v %q", d, line, gotAfter, got, ok, after, reply)
	}
	return reply
}

// holdScript holds a script against its lines, executed one by one by hand.
func holdScript(t *testing.T, lines ...string) {
	t.Helper()
	d := desk("dog", "1379", "n")
	var replies []string
	var failed []int
	for at, line := range lines {
		after, reply := executedByHand(d, line)
		d = after
		replies = append(replies, reply)
		if reply == "!no" || reply == "!what" {
			failed = append(failed, at+1)
		}
	}
	script := scriptOf(lines...)
	if got, ok := impl.RunScript(script); !slices.Equal(got, replies) || !ok {
		t.Errorf("RunScript %.200q: %q %v, not %q", script, got, ok, replies)
	}
	if got, ok := impl.DeskAfter(script); got != d || !ok {
		t.Errorf("DeskAfter %.200q: %v %v, not %v", script, got, ok, d)
	}
	if got, ok := impl.FailedLines(script); !slices.Equal(got, failed) || !ok {
		t.Errorf("FailedLines %.200q: %v %v, not %v", script, got, ok, failed)
	}
}

func desk(word string, keys string, piece string) impl.Desk {
	return impl.Desk{Word: word, Keys: keys, Piece: piece}
}

func scriptOf(lines ...string) string {
	script := ""
	for _, line := range lines {
		script += line + "\n"
	}
	return script
}

// someDesks are desks of every kind: with texts that are short, at the limit, and names of lines.
func someDesks() []impl.Desk {
	return []impl.Desk{
		desk("dog", "1379", "n"), desk("cab", "28", "k"), desk("a", "", "r"), desk("z", "5", "b"), desk("show", "7", "n"), desk("word", "0", "k"), desk(limitWord, longestDialed, "b"), desk(strings.Repeat("a", impl.MaxLetters), dialSigns, "r"), desk("what", "*0#", "n"), desk("no", "1937", "k"), desk("n", "1234567", "n"), desk("k", "12345678", "b"),
	}
}

// randomWord returns a word of a line for a letter of the document; most of them are of its kind.
func randomWord(random *rand.Rand, kind string) string {
	if random.Intn(10) == 0 {
		return []string{"", "x", "-1", "01", "5", "55", "1000000", "X", "n", "11:3,2", "11:11", "é"}[random.Intn(12)]
	}
	switch kind {
	case "W":
		return string(abc[random.Intn(26)]) + randomText(random, abc, 12)
	case "K":
		return randomKeys(random, random.Intn(9))
	case "A", "B":
		return randomKeys(random, 1)
	case "P":
		return pieces[random.Intn(len(pieces))]
	case "N":
		return fmt.Sprint(random.Intn([]int{4, 50, 1200, 1000000}[random.Intn(4)]))
	case "S":
		return []string{"11:3,2", "10:5,1", "13:12", "2:1,0,1", "10:3,1,3,1,3,1,3,1,3,1,3,1"}[random.Intn(5)]
	case "T":
		return string(checks[random.Intn(11)]) + randomText(random, checks, 4)
	}
	return walkDigits[random.Intn(10):][:1]
}

func randomLine(random *rand.Rand) string {
	words := strings.Fields(deskLines[random.Intn(len(deskLines))].words)
	for at, kind := range words[1:] {
		words[at+1] = randomWord(random, kind)
	}
	if random.Intn(20) == 0 {
		words = append(words, randomWord(random, "D"))
	}
	return strings.Join(words, " ")
}
