package tests

import (
	"fmt"
	"math/rand"
	"slices"
	"strings"
	"testing"

	"loop.example/g01350/impl"
)

// exampleScript has the lines of the document's example, with their replies behind `=`.
var exampleScript = []string{
	"press=36664", "code=364", "same=27", "rank=6", "word cab=cab", "press=222 2 22", "time 5=16", "first=aaa", "one 5=10", "two 4 6=6", "plan 4 6=0,1,0,0", "order 5=1397", "dial 28=28", "moves 5=u.dd.", "turn=05", "next 4=039", "all 3=46", "walk 1 9=16049", "ways 1 9=3", "walk 1 5=!no", "piece b=b", "once 2=2486", "far 2=-1,-1,0,-1,1,-1,1,-1,2,-1",
	"check 11:3,2 17=5", "right 11:3,2 715=not", "repair 11:3,2 174=124,175,574", "later 11:3,2 174=175", "luhn 7992739871=3", "check 11:3 17=!no", "piece q=!what", "fly=!what",
}

// holdReplied holds a script, its replies, the lines that fail and the desk behind it against what is written out.
func holdReplied(t *testing.T, script string, replies []string, failed []int, after impl.Desk) {
	t.Helper()
	if got, ok := impl.RunScript(script); !slices.Equal(got, replies) || !ok {
		t.Errorf("RunScript %.100q: %q %v, not %q", script, got, ok, replies)
	}
	if got, ok := impl.FailedLines(script); !slices.Equal(got, failed) || !ok {
		t.Errorf("FailedLines %.100q: %v %v, not %v", script, got, ok, failed)
	}
	if got, ok := impl.DeskAfter(script); got != after || !ok {
		t.Errorf("DeskAfter %.100q: %v %v, not %v", script, got, ok, after)
	}
}

// TestExampleScript executes the document's example up to each of its lines, and line by line.
func TestExampleScript(t *testing.T) {
	script := ""
	var replies []string
	var failed []int
	d := desk("dog", "1379", "n")
	for at, step := range exampleScript {
		line, reply, _ := strings.Cut(step, "=")
		script += line + "\n"
		replies = append(replies, reply)
		if strings.HasPrefix(reply, "!") {
			failed = append(failed, at+1)
		}
		after, got, ok := impl.DeskLine(d, line)
		if got != reply || !ok {
			t.Errorf("DeskLine %v, %q: %q %v", d, line, got, ok)
		}
		d = after
		holdReplied(t, script, replies, failed, d)
	}
	holdReplied(t, script, replies, []int{20, 29, 30, 31}, desk("aaa", "05", "b"))
}

func TestShortScripts(t *testing.T) {
	first := desk("dog", "1379", "n")
	holdReplied(t, "", nil, nil, first)
	holdReplied(t, "\n", []string{"!what"}, []int{1}, first)
	holdReplied(t, "\n\n\n", []string{"!what", "!what", "!what"}, []int{1, 2, 3}, first)
	holdReplied(t, " \n", []string{"!what"}, []int{1}, first)
	holdReplied(t, "show\n", []string{"dog"}, nil, first)
	holdReplied(t, "fly\n", []string{"!what"}, []int{1}, first)
	holdReplied(t, "walk 1 5\n", []string{"!no"}, []int{1}, first)
	holdReplied(t, "dial \n", []string{"-"}, nil, desk("dog", "", "n"))
	holdReplied(t, "\nshow\n\n", []string{"!what", "dog", "!what"}, []int{1, 3}, first)
	holdReplied(t, "piece k\nwho\n", []string{"k", "k"}, nil, desk("dog", "1379", "k"))
	holdReplied(t, "show\r\nshow\n", []string{"!what", "dog"}, []int{1}, first)
	holdReplied(t, "word show\nshow\nword no\nword what\nshow\n", []string{"show", "show", "no", "what", "what"}, nil, desk("what", "1379", "n"))
	holdReplied(t, "dial 5\ntime 5\ndial 007\nkeys\nnext 5\ndial \nplan 1 1\nmoves 1\nkeys\n", []string{"5", "5", "007", "007", "-", "-", "-", "-", "-"}, nil, desk("dog", "", "n"))
	holdReplied(t, "press \n press\npress  \nword  cab\nword cab \nshow\n", []string{"!what", "!what", "!what", "!what", "!what", "dog"}, []int{1, 2, 3, 4, 5}, first)
	holdReplied(t, "слово кот\nword кот\nword cab\nдок\n", []string{"!what", "!what", "cab", "!what"}, []int{1, 2, 4}, desk("cab", "1379", "n"))
}

// TestDeskBehindFailures holds that a line that fails leaves the desk as the lines in front of it made it.
func TestDeskBehindFailures(t *testing.T) {
	made := desk("zebra", "147*", "b")
	const changes = "word zebra\ndial 147*\npiece b\n"
	changed := []string{"zebra", "147*", "b"}
	for _, line := range []string{"word", "word ", "word CAB", "word cab 5", "dial", "dial 1a", "dial 5 5", "piece", "piece q", "piece n n", "first first", "mirror ", "turn 5", "walk 5 2", "ways 5 4", "time 1001", "all 0", "count 1 0", "check 11:3 17", "luhn X", "fly", ""} {
		reply := "!what"
		if slices.Contains([]string{"walk 5 2", "ways 5 4", "time 1001", "all 0", "count 1 0", "check 11:3 17", "luhn X"}, line) {
			reply = "!no"
		}
		holdReplied(t, changes+line+"\n", append(slices.Clone(changed), reply), []int{4}, made)
		holdReplied(t, changes+line+"\nshow\nkeys\nwho\n", append(append(slices.Clone(changed), reply), changed...), []int{4}, made)
		holdReplied(t, line+"\n"+changes+line+"\n", append(append([]string{reply}, changed...), reply), []int{1, 5}, made)
	}
}

// TestScriptLimits has just MaxLines lines and one more, and just MaxScript bytes and one more.
func TestScriptLimits(t *testing.T) {
	if impl.MaxScript != 3000 || impl.MaxLines != 50 {
		t.Error(impl.MaxScript, impl.MaxLines)
	}
	first := desk("dog", "1379", "n")
	all := make([]int, 50)
	for at := range all {
		all[at] = at + 1
	}
	holdReplied(t, strings.Repeat("show\n", 50), slices.Repeat([]string{"dog"}, 50), nil, first)
	holdReplied(t, strings.Repeat("\n", 50), slices.Repeat([]string{"!what"}, 50), all, first)
	holdReplied(t, strings.Repeat("walk 1 5\n", 50), slices.Repeat([]string{"!no"}, 50), all, first)
	holdReplied(t, strings.Repeat("show\n", 49)+"word cab\n", append(slices.Repeat([]string{"dog"}, 49), "cab"), nil, desk("cab", "1379", "n"))
	holdReplied(t, strings.Repeat("x", 2999)+"\n", []string{"!what"}, []int{1}, first)
	holdReplied(t, "word cab\n"+strings.Repeat(" ", 2985)+"\nshow\n", []string{"cab", "!what", "cab"}, []int{2}, desk("cab", "1379", "n"))
	// 50 lines of just 60 bytes each.
	holdReplied(t, strings.Repeat(strings.Repeat("x", 59)+"\n", 50), slices.Repeat([]string{"!what"}, 50), all, first)
	holdReplied(t, strings.Repeat("dial "+strings.Repeat("1", 30)+"\n", 50), slices.Repeat([]string{strings.Repeat("1", 30)}, 50), nil, desk("dog", strings.Repeat("1", 30), "n"))
	for _, script := range []string{
		strings.Repeat("show\n", 51), strings.Repeat("\n", 51), strings.Repeat("\n", 52), strings.Repeat("\n", 3000), strings.Repeat("\n", 3001), strings.Repeat("show\n", 50) + "show", strings.Repeat("show\n", 50) + " ",
		strings.Repeat("x", 3000) + "\n", strings.Repeat(strings.Repeat("x", 59)+"\n", 49) + strings.Repeat("x", 60) + "\n", "word cab\n" + strings.Repeat(" ", 2986) + "\nshow\n", strings.Repeat("x", 100000) + "\n", strings.Repeat("show\n", 100000),
	} {
		holdNoScript(t, script)
	}
}

// holdNoScript holds that a text is no script.
func holdNoScript(t *testing.T, text string) {
	t.Helper()
	if replies, ok := impl.RunScript(text); replies != nil || ok {
		t.Errorf("RunScript %.100q: %.10q %v", text, replies, ok)
	}
	if after, ok := impl.DeskAfter(text); after != (impl.Desk{}) || ok {
		t.Errorf("DeskAfter %.100q: %v %v", text, after, ok)
	}
	if failed, ok := impl.FailedLines(text); failed != nil || ok {
		t.Errorf("FailedLines %.100q: %.10v %v", text, failed, ok)
	}
}

// TestNotEnded has scripts whose last line no newline ends.
func TestNotEnded(t *testing.T) {
	for _, text := range []string{"show", "s", " ", "\r", "\x00", "é", "fly", "show\nshow", "show\n ", "show\n\r", "\nshow", "show\n\n\nx", "word cab\nshow", "show\v", "show\r", "show\u2028", "show\n\x00", "show\n\xff", strings.Repeat("x", 3000), strings.Repeat("x", 2999), strings.Repeat("show\n", 49) + "show"} {
		holdNoScript(t, text)
	}
}

// TestLineByLine executes scripts with lines of the table, and some that are not, against what is done by hand.
func TestLineByLine(t *testing.T) {
	random := rand.New(rand.NewSource(103))
	for lines := range impl.MaxLines + 1 {
		for range 10 {
			var script []string
			for range lines {
				script = append(script, randomLine(random))
			}
			holdScript(t, script...)
		}
	}
}

// TestFailedLinesAmong has scripts in which one line fails, or all but one.
func TestFailedLinesAmong(t *testing.T) {
	for lines := 1; lines <= impl.MaxLines; lines += 7 {
		for at := range lines {
			for _, wrong := range []string{"fly", "walk 1 5", ""} {
				one := slices.Repeat([]string{"press"}, lines)
				one[at] = wrong
				if failed, ok := impl.FailedLines(scriptOf(one...)); !slices.Equal(failed, []int{at + 1}) || !ok {
					t.Errorf("FailedLines %d of %d: %v %v", at+1, lines, failed, ok)
				}
				most := slices.Repeat([]string{wrong}, lines)
				most[at] = "press"
				holdScript(t, most...)
			}
		}
	}
}

// TestScriptsAreNew writes into results, and into the room behind them: later ones may not change by this.
func TestScriptsAreNew(t *testing.T) {
	const script = "show\nfly\nplan 4 6\nwalk 1 5\nword cab\n"
	for range 3 {
		replies, _ := impl.RunScript(script)
		failed, _ := impl.FailedLines(script)
		after, _ := impl.DeskAfter(script)
		if fmt.Sprint(replies, failed, after) != "[dog !what 0,1,0,0 !no cab] [2 4] {cab 1379 n}" {
			t.Fatal(replies, failed, after)
		}
		for at := range replies[:cap(replies)] {
			replies[:cap(replies)][at] = "new"
		}
		for at := range failed[:cap(failed)] {
			failed[:cap(failed)][at] = 99
		}
	}
}
