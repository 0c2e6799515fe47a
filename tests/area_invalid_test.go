package tests

import (
	"runtime"
	"slices"
	"strings"
	"testing"

	"loop.example/g01350/impl"
)

// notCodes are texts of every kind that are no codes.
var notCodes = []string{
	"", " ", "a", "X", "1a", "a1", "1 ", " 1", "1\n", "1 2", "-1", "+1", "1,2", "1.2", "0,", ",0", "*", "#", "/", ":", "1/", ":1", "é", "1é", "１", "\x00", "1\x00", "\xff",
	"0000000", "1234567", "123456 ", "12345é", sameText("9", 12), strings.Repeat("0", 100000), strings.Repeat("é", 3),
}

// notPlans are lists that are no plans.
func notPlans() [][]string {
	lists := [][]string{
		nil, {}, codesOf("1,0"), codesOf("0,3,11,12"), codesOf("3,12,11,0"), codesOf("0,0"), codesOf("0,1,1"), codesOf("1,1,2"), codesOf("0,00"), codesOf("00,0"), codesOf("1,11,2"), codesOf("0,1,12"), codesOf("1,12,123"), codesOf("12,1,123"), codesOf("9,999999"), codesOf("2,10"),
		codesOf(twenty + ",2"), codesOf(nineteen + ",2,3"), slices.Repeat([]string{"1"}, impl.MaxCodes), slices.Repeat([]string{"1"}, 100000), slices.Repeat([]string{""}, 21), wordsOf(walkDigits, 5),
	}
	for _, text := range notCodes {
		lists = append(lists, []string{text}, []string{text, text}, []string{text, "9"}, []string{"0", text}, slices.Sorted(slices.Values([]string{"0", text, "9"})), slices.Sorted(slices.Values(append(codesOf(nineteen), text))))
	}
	return lists
}

// planCall is a call with a list, which tells whether all other results are zero, and the last one.
type planCall struct {
	name string
	call func(list []string) (bool, bool)
}

func numberOfPlan(name string, call func(list []string) (int, bool)) planCall {
	return planCall{name, func(list []string) (bool, bool) {
		got, ok := call(list)
		return got == 0, ok
	}}
}

func textOfPlan(name string, call func(list []string) (string, bool)) planCall {
	return planCall{name, func(list []string) (bool, bool) {
		got, ok := call(list)
		return got == "", ok
	}}
}

func listOfPlan(name string, call func(list []string) ([]string, bool)) planCall {
	return planCall{name, func(list []string) (bool, bool) {
		got, ok := call(list)
		return got == nil, ok
	}}
}

// withPlan are calls with a plan, and otherwise with what is told of it.
func withPlan(code string, long int) []planCall {
	return []planCall{
		textOfPlan("AreaOf", func(list []string) (string, bool) { return impl.AreaOf(list, code) }),
		numberOfPlan("NumbersIn", func(list []string) (int, bool) { return impl.NumbersIn(list, code, long) }),
		numberOfPlan("FreeNumbers", func(list []string) (int, bool) { return impl.FreeNumbers(list, long) }),
		numberOfPlan("CountFreeCodes", func(list []string) (int, bool) { return impl.CountFreeCodes(list, long) }),
		textOfPlan("FirstFreeCode", func(list []string) (string, bool) { return impl.FirstFreeCode(list, long) }),
		{"IsFullPlan", func(list []string) (bool, bool) {
			is, ok := impl.IsFullPlan(list)
			return !is, ok
		}},
		{"PartOf", func(list []string) (bool, bool) {
			part, all, ok := impl.PartOf(list)
			return part == 0 && all == 0, ok
		}},
		listOfPlan("AddCode", func(list []string) ([]string, bool) { return impl.AddCode(list, code) }),
		listOfPlan("DropCode", func(list []string) ([]string, bool) { return impl.DropCode(list, code) }),
		listOfPlan("SplitCode", func(list []string) ([]string, bool) { return impl.SplitCode(list, code) }),
		listOfPlan("JoinCodes", func(list []string) ([]string, bool) { return impl.JoinCodes(list, code) }),
		{"LengthsOf", func(list []string) (bool, bool) {
			lengths, ok := impl.LengthsOf(list)
			return lengths == nil, ok
		}},
		textOfPlan("CodePlanText", impl.CodePlanText),
	}
}

func holdNoPlan(t *testing.T, f planCall, list []string, what string) {
	t.Helper()
	if zero, ok := f.call(list); !zero || ok {
		t.Errorf("%s of %d codes, %.100q, %s: zero %v, %v", f.name, len(list), list, what, zero, ok)
	}
}

func TestNotPlans(t *testing.T) {
	for _, list := range notPlans() {
		if impl.IsCodePlan(list) {
			t.Errorf("IsCodePlan of %d codes, %.100q", len(list), list)
		}
		for _, code := range []string{"0", "1", "12", "5", "999999", "", "x"} {
			for _, long := range []int{0, 1, 2, 6, 7} {
				for _, f := range withPlan(code, long) {
					holdNoPlan(t, f, list, code)
				}
			}
		}
		if len(list) > 0 {
			for _, f := range withPlan(list[0], impl.MaxCode) {
				holdNoPlan(t, f, list, "its first code")
			}
		}
	}
}

// TestNotSomeCodes gives lists in which some text is no code, or that are too short or too long: in another order they are no plans either.
func TestNotSomeCodes(t *testing.T) {
	lists := [][]string{nil, {}, codesOf(twenty + ",2"), slices.Repeat([]string{"1"}, 21), slices.Repeat([]string{""}, 20), wordsOf(walkDigits, 5)}
	for _, text := range notCodes {
		lists = append(lists, []string{text}, []string{text, text}, []string{text, "9"}, []string{"9", text}, []string{"0", text, "9"}, append(codesOf(nineteen), text), append([]string{text}, codesOf(nineteen)...), append(codesOf(twenty), text))
	}
	for _, list := range lists {
		if got, ok := impl.MakePlan(list); got != nil || ok {
			t.Errorf("MakePlan of %d codes, %.100q: %q %v", len(list), list, got, ok)
		}
		if got, ok := impl.ConflictsOf(list); got != nil || ok {
			t.Errorf("ConflictsOf of %d codes, %.100q: %v %v", len(list), list, got, ok)
		}
	}
}

func TestNotCodes(t *testing.T) {
	codes := []brokenCall{
		callTexts("SharedStart, the first one", func(text string) (string, bool) { return impl.SharedStart(text, "1") }),
		callTexts("SharedStart, the second one", func(text string) (string, bool) { return impl.SharedStart("1", text) }),
		callTexts("SharedStart of itself", func(text string) (string, bool) { return impl.SharedStart(text, text) }),
	}
	for _, plan := range append(areaPlans(), randomPlans(5)...) {
		codes = append(codes,
			callNumbers("NumbersIn", func(text string) (int, bool) { return impl.NumbersIn(plan, text, impl.MaxCode) }),
			callNumbers("NumbersIn, of 1 digit", func(text string) (int, bool) { return impl.NumbersIn(plan, text, 1) }),
			callLists("AddCode", func(text string) ([]string, bool) { return impl.AddCode(plan, text) }),
			callLists("DropCode", func(text string) ([]string, bool) { return impl.DropCode(plan, text) }),
			callLists("SplitCode", func(text string) ([]string, bool) { return impl.SplitCode(plan, text) }),
			callLists("JoinCodes", func(text string) ([]string, bool) { return impl.JoinCodes(plan, text) }),
		)
	}
	holdInvalid(t, codes, notCodes)
	// As a text "1,2" tells a plan.
	holdInvalid(t, []brokenCall{callLists("ParseCodePlan", impl.ParseCodePlan)}, slices.DeleteFunc(slices.Clone(notCodes), func(text string) bool { return text == "1,2" }))
}

// notAreaNumbers are texts that are no codes, and no longer numbers either.
func notAreaNumbers() []string {
	numbers := slices.DeleteFunc(slices.Clone(notCodes), func(text string) bool { return len(text) <= 12 && strings.Trim(text, walkDigits) == "" })
	return append(numbers, sameText("0", 13), "1234567890123", "123456789012X")
}

func TestNotAreaNumbers(t *testing.T) {
	for _, plan := range areaPlans() {
		for _, text := range notAreaNumbers() {
			// Where a code begins the text, only what follows is wrong.
			for _, number := range []string{"", text, plan[0] + text, plan[len(plan)-1] + text + "1"} {
				if got, ok := impl.AreaOf(plan, number); got != "" || ok {
					t.Errorf("AreaOf %q, %.60q: %q %v", plan, number, got, ok)
				}
			}
		}
	}
	for digits := range 20 {
		got, ok := impl.AreaOf([]string{"7"}, sameText("7", digits))
		if fine := 1 <= digits && digits <= 12; ok != fine || (got == "7") != fine {
			t.Errorf("AreaOf 7, %d digits: %q %v", digits, got, ok)
		}
	}
}

// planNumbers are calls with a length.
var planNumbers = []pinNumber{
	numberFor("NumbersIn", 1, 6, func(long int) (int, bool) { return impl.NumbersIn(examplePlan, "0", long) }),
	numberFor("NumbersIn of a long code", 1, 6, func(long int) (int, bool) { return impl.NumbersIn([]string{"123456"}, "123456", long) }),
	numberFor("FreeNumbers", 2, 6, func(long int) (int, bool) { return impl.FreeNumbers(examplePlan, long) }),
	numberFor("FreeNumbers of short codes", 1, 6, func(long int) (int, bool) { return impl.FreeNumbers([]string{"0"}, long) }),
	numberFor("FreeNumbers of a long code", 6, 6, func(long int) (int, bool) { return impl.FreeNumbers([]string{"000000", "1"}, long) }),
	numberFor("CountFreeCodes", 1, 6, func(long int) (int, bool) { return impl.CountFreeCodes(examplePlan, long) }),
	numberFor("CountFreeCodes of a full plan", 1, 6, func(long int) (int, bool) { return impl.CountFreeCodes(behind("", walkDigits), long) }),
	textFor("FirstFreeCode", 1, 6, func(long int) (string, bool) { return impl.FirstFreeCode(examplePlan, long) }),
	boolFor("ArePossible", 1, 6, func(long int) (bool, bool) { return impl.ArePossible([]int{long}) }),
	boolFor("ArePossible, two lengths", 1, 6, func(long int) (bool, bool) { return impl.ArePossible([]int{1, long}) }),
	boolFor("ArePossible, too many", 1, 6, func(long int) (bool, bool) { return impl.ArePossible(append([]int{long}, lengthsWith(10)...)) }),
	{"PlanOfLengths", 1, 6, func(long int) (bool, bool) {
		got, ok := impl.PlanOfLengths([]int{2, long, 1})
		return got == nil, ok
	}},
}

func TestPlanNumbersOutOfBounds(t *testing.T) {
	for _, f := range planNumbers {
		for _, number := range append([]int{0, 1, 2, 3, 4, 5, 6, 7, 8, 9, 10, 12, 13, 20, 21}, farNumbers...) {
			zero, ok := f.call(number)
			if fine := f.least <= number && number <= f.most; ok != fine || !zero && !fine {
				t.Errorf("%s of %d: zero %v, %v", f.name, number, zero, ok)
			}
		}
	}
	if impl.MaxCodes != 20 || impl.MaxCode != 6 {
		t.Error(impl.MaxCodes, impl.MaxCode)
	}
}

func TestNotLengths(t *testing.T) {
	lists := [][]int{nil, {}, {0}, {7}, {-1}, {1, 0}, {0, 1}, {1, 7}, {7, 1}, {2, -1, 2}, {6, 6, 7}, slices.Repeat([]int{6}, 21), slices.Repeat([]int{1}, 21), slices.Repeat([]int{6}, 100000), append(slices.Repeat([]int{6}, 19), 7), append(slices.Repeat([]int{6}, 19), 0), slices.Repeat([]int{0}, 20), slices.Repeat([]int{7}, 20)}
	for _, far := range farNumbers {
		lists = append(lists, []int{far}, []int{far, 1}, []int{1, far}, []int{far, -far}, []int{far, far}, append(lengthsWith(0, 19), far))
	}
	for _, lengths := range lists {
		if can, ok := impl.ArePossible(lengths); can || ok {
			t.Errorf("ArePossible of %d lengths, %.20v: %v %v", len(lengths), lengths, can, ok)
		}
		if got, ok := impl.PlanOfLengths(lengths); got != nil || ok {
			t.Errorf("PlanOfLengths of %d lengths, %.20v: %q %v", len(lengths), lengths, got, ok)
		}
	}
}

// TestCodePlansStay gives lists that have room behind them, and then holds lists and room against what they were.
func TestCodePlansStay(t *testing.T) {
	for _, plan := range slices.Concat(areaPlans(), randomPlans(20), notPlans(), [][]string{codesOf("3,12,0,11"), codesOf("12,1,123")}) {
		room := append(slices.Clone(plan), "4", "room", "")
		before := slices.Clone(room)
		given := room[:len(plan)]
		impl.IsCodePlan(given)
		impl.MakePlan(given)
		impl.ConflictsOf(given)
		for _, code := range append([]string{"0", "1", "4", "123456", "9"}, plan[:min(len(plan), 20)]...) {
			for _, long := range []int{1, 2, 6} {
				for _, f := range withPlan(code, long) {
					f.call(given)
				}
			}
		}
		if !slices.Equal(room, before) {
			t.Errorf("%.100q became %.100q", before, room)
		}
	}
	for _, lengths := range append(edgeLengths(), []int{6, 2, 1, 3, 1}, []int{7, 1}) {
		slices.Reverse(lengths)
		room := append(slices.Clone(lengths), 3, 1, 9)
		before := slices.Clone(room)
		impl.ArePossible(room[:len(lengths)])
		impl.PlanOfLengths(room[:len(lengths)])
		if !slices.Equal(room, before) {
			t.Errorf("%v became %v", before, room)
		}
	}
}

// TestCodePlansAreNew writes into results, and into the room behind them: neither arguments nor later results may change by this.
func TestCodePlansAreNew(t *testing.T) {
	plan := append(make([]string, 0, 40), examplePlan...)
	for range 2 {
		made, _ := impl.MakePlan(plan)
		added, _ := impl.AddCode(plan, "4")
		dropped, _ := impl.DropCode(plan, "3")
		split, _ := impl.SplitCode(plan, "0")
		joined, _ := impl.JoinCodes(plan, "1")
		fitting, _ := impl.PlanOfLengths([]int{1, 1, 2})
		read, _ := impl.ParseCodePlan("0,1,20")
		lengths, _ := impl.LengthsOf(plan)
		for i, got := range [][]string{made, added, dropped, split, joined, fitting, read} {
			want := []string{"0,11,12,3", "0,11,12,3,4", "0,11,12", "00,01,02,03,04,05,06,07,08,09,11,12,3", "0,1,3", "0,1,20", "0,1,20"}[i]
			if strings.Join(got, ",") != want {
				t.Errorf("%q, not %s", got, want)
			}
			got = got[:cap(got)]
			for at := range got {
				got[at] = "9"
			}
		}
		if !slices.Equal(lengths, []int{1, 1, 2, 2}) {
			t.Error(lengths)
		}
		for at := range lengths {
			lengths[at] = 9
		}
		if !slices.Equal(plan, examplePlan) {
			t.Fatal(plan)
		}
	}
}

// TestConflictsAreNew writes into pairs and into the room behind each: no other pair may change by this.
func TestConflictsAreNew(t *testing.T) {
	for range 2 {
		got, _ := impl.ConflictsOf(codesOf("12,1,123"))
		for at, pair := range got {
			if want := [][]int{{0, 2}, {1, 0}, {1, 2}}[at]; !slices.Equal(pair, want) {
				t.Errorf("%d: %v, not %v", at, pair, want)
			}
			pair = pair[:cap(pair)]
			for i := range pair {
				pair[i] = 9
			}
		}
	}
}

// TestNobodyCountsOn holds that nothing goes on behind a call that waits for all lengths.
func TestNobodyCountsOn(t *testing.T) {
	before := runtime.NumGoroutine()
	for range 100 {
		for _, plan := range [][]string{examplePlan, fullPlans()[1], largePlans()[1], {"0"}} {
			impl.IsFullPlan(plan)
			impl.IsFullPlan(slices.Repeat(plan, 2))
		}
	}
	holdNoMoreRun(t, before)
}

// TestCodePlansRepeat calls the same again, as no result may depend on who comes first.
func TestCodePlansRepeat(t *testing.T) {
	for range 500 {
		holdFull(t, fullPlans()[2], true)
		holdFull(t, wantingPlans()[4][1:], false)
		holdFull(t, largePlans()[3], false)
	}
}
