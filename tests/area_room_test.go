package tests

import (
	"math/rand"
	"slices"
	"strings"
	"testing"

	"loop.example/g01350/impl"
)

// tens are how many numbers of 0 to 6 digits there are.
var tens = []int{1, 10, 100, 1000, 10000, 100000, 1000000}

// allNumbers are, for each length in 1..MaxCode, all numbers in order.
func allNumbers() [][]string {
	all := [][]string{nil}
	for long := 1; long <= impl.MaxCode; long++ {
		all = append(all, wordsOf(walkDigits, long))
	}
	return all
}

// areaByHand tries all codes, and returns no text if none begins a number.
func areaByHand(plan []string, number string) string {
	for _, code := range plan {
		if len(code) <= len(number) && number[:len(code)] == code {
			return code
		}
	}
	return ""
}

func holdArea(t *testing.T, plan []string, number string) {
	t.Helper()
	want := areaByHand(plan, number)
	if got, ok := impl.AreaOf(plan, number); got != want || ok != (want != "") {
		t.Errorf("AreaOf %q, %s: %q %v", plan, number, got, ok)
	}
}

func TestAreaOf(t *testing.T) {
	random := rand.New(rand.NewSource(85))
	short := slices.Concat(wordsOf(walkDigits, 1), wordsOf(walkDigits, 2))
	for _, plan := range append(areaPlans(), randomPlans(50)...) {
		for _, number := range short {
			holdArea(t, plan, number)
		}
		for _, code := range plan {
			// Numbers as long as can be, and all beginnings of these, the code itself among them.
			number := code + "037046105982"[:12-len(code)]
			for digits := 1; digits <= len(number); digits++ {
				holdArea(t, plan, number[:digits])
			}
		}
		for range 20 {
			holdArea(t, plan, randomCode(random, walkDigits, 12))
		}
	}
}

func TestAreaByHand(t *testing.T) {
	for _, c := range []struct{ plan, number, area string }{
		{"0,11,12,3", "1234", "12"}, {"0,11,12,3", "9", ""}, {"0,11,12,3", "1", ""}, {"0,11,12,3", "12", "12"}, {"0,11,12,3", "10", ""}, {"0,11,12,3", "0", "0"}, {"0,11,12,3", "000000000000", "0"}, {"0,11,12,3", "111111111111", "11"}, {"0,11,12,3", "133333333333", ""},
		{"123456", "12345", ""}, {"123456", "123456", "123456"}, {"123456", "1234567", "123456"}, {"123456", "123456123456", "123456"}, {"123456", "123457123456", ""}, {"123456", "012345612345", ""}, {"0,1,20", "21", ""}, {"0,1,20", "2", ""}, {"0,1,20", "202", "20"},
	} {
		if got, ok := impl.AreaOf(codesOf(c.plan), c.number); got != c.area || ok != (c.area != "") {
			t.Errorf("AreaOf %s, %s: %q %v", c.plan, c.number, got, ok)
		}
	}
}

// roomIn is what enumerated numbers of a length tell of a plan.
type roomIn struct {
	begun map[string]int
	free  int
	codes []string
}

// roomOf holds each number against all codes.
func roomOf(plan []string, numbers []string) roomIn {
	room := roomIn{begun: map[string]int{}}
	for _, number := range numbers {
		area := areaByHand(plan, number)
		if area != "" {
			room.begun[area]++
			continue
		}
		room.free++
		if isApartFromAll(plan, number) {
			room.codes = append(room.codes, number)
		}
	}
	return room
}

// holdRoom holds all that is told of numbers and codes of a length.
func holdRoom(t *testing.T, plan []string, long int, room roomIn) {
	t.Helper()
	longer, all := false, 0
	for _, code := range plan {
		longer = longer || len(code) > long
		got, ok := impl.NumbersIn(plan, code, long)
		if got != room.begun[code] || !ok {
			t.Errorf("NumbersIn %q, %s, %d: %d %v, not %d", plan, code, long, got, ok, room.begun[code])
		}
		all += got
	}
	free, ok := impl.FreeNumbers(plan, long)
	if ok == longer || !longer && free != room.free || longer && free != 0 {
		t.Errorf("FreeNumbers %q, %d: %d %v, not %d", plan, long, free, ok, room.free)
	}
	if ok && all+free != tens[long] {
		t.Errorf("%q: %d numbers of %d digits, and %d are free", plan, all, long, free)
	}
	holdFreeCodes(t, plan, long, room.codes)
}

func holdFreeCodes(t *testing.T, plan []string, long int, codes []string) {
	t.Helper()
	if got, ok := impl.CountFreeCodes(plan, long); got != len(codes) || !ok {
		t.Errorf("CountFreeCodes %q, %d: %d %v, not %d", plan, long, got, ok, len(codes))
	}
	first := ""
	if len(codes) > 0 {
		first = codes[0]
	}
	if got, ok := impl.FirstFreeCode(plan, long); got != first || ok != (first != "") {
		t.Errorf("FirstFreeCode %q, %d: %q %v, not %q", plan, long, got, ok, first)
	}
}

func TestRoomEnumerated(t *testing.T) {
	numbers := allNumbers()
	for _, plan := range append(areaPlans(), randomPlans(30)...) {
		for long := 1; long <= 4; long++ {
			holdRoom(t, plan, long, roomOf(plan, numbers[long]))
		}
	}
}

// TestLongRoomEnumerated holds plans at all numbers of 5 and of 6 digits, and then all that these tell.
func TestLongRoomEnumerated(t *testing.T) {
	numbers := allNumbers()
	plans := [][]string{examplePlan, {"0"}, {"999999"}, {"000000"}, codesOf("000000,000001,00001,0001,001,01,1"), codesOf("12,130,131,1320,99999"), fullPlans()[1], wantingPlans()[0][1:], wantingPlans()[3][1:]}
	for _, plan := range slices.Concat(plans, largePlans(), randomPlans(2)) {
		holdRoom(t, plan, 5, roomOf(plan, numbers[5]))
		room := roomOf(plan, numbers[6])
		holdRoom(t, plan, 6, room)
		holdFull(t, plan, room.free == 0)
		holdPart(t, plan, tens[6]-room.free)
	}
}

func holdFull(t *testing.T, plan []string, full bool) {
	t.Helper()
	if is, ok := impl.IsFullPlan(plan); is != full || !ok {
		t.Errorf("IsFullPlan %q: %v %v", plan, is, ok)
	}
}

// holdPart holds the part that so many numbers of MaxCode digits are, and that no number divides both of its sides.
func holdPart(t *testing.T, plan []string, numbers int) {
	t.Helper()
	part, all, ok := impl.PartOf(plan)
	if !ok || part < 1 || all < part || part*tens[6] != numbers*all {
		t.Errorf("PartOf %q: %d / %d, %v, not %d", plan, part, all, ok, numbers)
	}
	for _, divisor := range []int{2, 5} {
		if part%divisor == 0 && all%divisor == 0 {
			t.Errorf("PartOf %q: %d / %d, but both are divided by %d", plan, part, all, divisor)
		}
	}
	if tens[6]%max(all, 1) != 0 {
		t.Errorf("PartOf %q: %d / %d", plan, part, all)
	}
}

// TestPartsAdd holds parts against what all codes begin, and full plans against their parts.
func TestPartsAdd(t *testing.T) {
	for _, plan := range append(areaPlans(), randomPlans(1000)...) {
		numbers := 0
		for _, code := range plan {
			numbers += tens[6-len(code)]
		}
		holdPart(t, plan, numbers)
		holdFull(t, plan, numbers == tens[6])
	}
}

// freeAmong tells, in order, the starts of at most so many digits behind which all is free: no start of them is one itself.
func freeAmong(plan []string, start string, long int, tell func(free string)) {
	if areaByHand(plan, start) != "" {
		return
	}
	if isApartFromAll(plan, start) && start != "" {
		tell(start)
		return
	}
	if len(start) < long {
		for _, longer := range behind(start, walkDigits) {
			freeAmong(plan, longer, long, tell)
		}
	}
}

// TestRoomOfManyPlans holds codes of all lengths that can be put into many plans.
func TestRoomOfManyPlans(t *testing.T) {
	for _, plan := range append(areaPlans(), randomPlans(1000)...) {
		for long := 1; long <= impl.MaxCode; long++ {
			count, first := 0, ""
			freeAmong(plan, "", long, func(free string) {
				if count == 0 {
					first = free + strings.Repeat("0", long-len(free))
				}
				count += tens[long-len(free)]
			})
			if got, ok := impl.CountFreeCodes(plan, long); got != count || !ok {
				t.Errorf("CountFreeCodes %q, %d: %d %v, not %d", plan, long, got, ok, count)
			}
			if got, ok := impl.FirstFreeCode(plan, long); got != first || ok != (count > 0) {
				t.Errorf("FirstFreeCode %q, %d: %q %v, not %q", plan, long, got, ok, first)
			}
		}
	}
}

func TestRoomByHand(t *testing.T) {
	for _, c := range []struct {
		plan              string
		long, free, codes int
		first             string
	}{
		{"0,11,12,3", 1, 0, 7, "2"}, {"0,11,12,3", 2, 78, 78, "10"}, {"0,11,12,3", 3, 780, 780, "100"}, {"0,11,12,3", 6, 780000, 780000, "100000"},
		{"0", 1, 9, 9, "1"}, {"0", 6, 900000, 900000, "100000"}, {"9", 1, 9, 9, "0"}, {"9", 6, 900000, 900000, "000000"},
		{"000000", 1, 0, 9, "1"}, {"000000", 2, 0, 99, "01"}, {"000000", 5, 0, 99999, "00001"}, {"000000", 6, 999999, 999999, "000001"}, {"999999", 6, 999999, 999999, "000000"}, {"999999", 1, 0, 9, "0"},
		{"0,1,2,3,4,5,6,7,8", 1, 1, 1, "9"}, {"0,1,2,3,4,5,6,7,8", 6, 100000, 100000, "900000"}, {"0,1,2,3,4,5,6,7,8,9", 1, 0, 0, ""}, {"0,1,2,3,4,5,6,7,8,9", 6, 0, 0, ""},
		{"0,1,2,3,4,5,6,7,8,999999", 1, 0, 0, ""}, {"0,1,2,3,4,5,6,7,8,999999", 2, 0, 9, "90"}, {"0,1,2,3,4,5,6,7,8,999999", 6, 99999, 99999, "900000"},
		{"0,1,2,3,4,5,6,7,8,90,91,92,93,94,95,96,97,98", 1, 0, 0, ""}, {"0,1,2,3,4,5,6,7,8,90,91,92,93,94,95,96,97,98", 2, 1, 1, "99"}, {"0,1,2,3,4,5,6,7,8,90,91,92,93,94,95,96,97,98", 3, 10, 10, "990"},
		{"00,01,02,03,04,05,06,07,08,09,10,11,12,13,14,15,16,17,18,19", 1, 0, 8, "2"}, {"00,01,02,03,04,05,06,07,08,09,10,11,12,13,14,15,16,17,18,19", 2, 80, 80, "20"}, {"00,01,02,03,04,05,06,07,08,09,10,11,12,13,14,15,16,17,18,19", 6, 800000, 800000, "200000"},
		{"111,112,12,13", 1, 0, 9, "0"}, {"111,112,12,13", 2, 0, 97, "00"}, {"111,112,12,13", 3, 978, 978, "000"},
		{"010,011", 1, 0, 9, "1"}, {"010,011", 2, 0, 99, "00"},
	} {
		plan := codesOf(c.plan)
		if got, ok := impl.FreeNumbers(plan, c.long); got != c.free || ok != (len(slices.MaxFunc(plan, func(a string, b string) int { return len(a) - len(b) })) <= c.long) {
			t.Errorf("FreeNumbers %s, %d: %d %v", c.plan, c.long, got, ok)
		}
		if got, ok := impl.CountFreeCodes(plan, c.long); got != c.codes || !ok {
			t.Errorf("CountFreeCodes %s, %d: %d %v", c.plan, c.long, got, ok)
		}
		if got, ok := impl.FirstFreeCode(plan, c.long); got != c.first || ok != (c.first != "") {
			t.Errorf("FirstFreeCode %s, %d: %q %v", c.plan, c.long, got, ok)
		}
	}
}

func TestNumbersInByHand(t *testing.T) {
	for _, c := range []struct {
		code          string
		long, numbers int
	}{
		{"0", 1, 1}, {"0", 2, 10}, {"0", 6, 100000}, {"11", 1, 0}, {"11", 2, 1}, {"11", 3, 10}, {"11", 6, 10000}, {"3", 1, 1}, {"400000", 1, 0}, {"400000", 5, 0}, {"400000", 6, 1}, {"55555", 4, 0}, {"55555", 5, 1}, {"55555", 6, 10},
	} {
		if got, ok := impl.NumbersIn(codesOf("0,11,12,3,400000,55555"), c.code, c.long); got != c.numbers || !ok {
			t.Errorf("NumbersIn %s, %d: %d %v", c.code, c.long, got, ok)
		}
	}
}

func TestFullByHand(t *testing.T) {
	for _, plan := range fullPlans() {
		holdFull(t, plan, true)
		if part, all, ok := impl.PartOf(plan); part != 1 || all != 1 || !ok {
			t.Errorf("PartOf %q: %d %d %v", plan, part, all, ok)
		}
		for at := range plan {
			less := slices.Delete(slices.Clone(plan), at, at+1)
			holdFull(t, less, false)
			holdFreeCodes(t, less, len(plan[at]), plan[at:at+1])
		}
		for long := 1; long <= impl.MaxCode; long++ {
			holdFreeCodes(t, plan, long, nil)
		}
	}
	// Each length but the last one is used up, or there are MaxCodes codes: some code could be put in nevertheless.
	for _, text := range []string{"000000,1,2,3,4,5,6,7,8,9", "000001,1,2,3,4,5,6,7,8,9", "0"} {
		holdFull(t, codesOf(text), false)
	}
	for _, plan := range largePlans() {
		holdFull(t, plan, false)
	}
}

// TestWantingPlans puts in the only code that is wanted, and then there is no room.
func TestWantingPlans(t *testing.T) {
	for _, plan := range wantingPlans() {
		code, less := plan[0], plan[1:]
		holdFull(t, less, false)
		for long := 1; long < len(code); long++ {
			holdFreeCodes(t, less, long, nil)
		}
		holdFreeCodes(t, less, len(code), []string{code})
		full, ok := impl.AddCode(less, code)
		if !slices.Equal(full, slices.Sorted(slices.Values(plan))) || !ok {
			t.Errorf("AddCode %q, %s: %q %v", less, code, full, ok)
		}
		holdFull(t, full, true)
	}
}

func TestPartByHand(t *testing.T) {
	for _, c := range []struct {
		plan      string
		part, all int
	}{
		{"0,11,12,3", 11, 50}, {"0", 1, 10}, {"0,1", 1, 5}, {"0,1,2,3,4", 1, 2}, {"0,1,2,3,4,5,6,7,8,9", 1, 1}, {"0,1,2,3,4,5,6,7,8", 9, 10}, {"000000", 1, 1000000}, {"000000,1", 100001, 1000000}, {"00000,00001", 1, 50000}, {"12,13,14,15", 1, 25}, {"000,001,002,003,004,005,006,007", 1, 125}, {"00,01,02,03,04,1", 3, 20}, {"123456,123457", 1, 500000},
	} {
		if part, all, ok := impl.PartOf(codesOf(c.plan)); part != c.part || all != c.all || !ok {
			t.Errorf("PartOf %s: %d %d %v", c.plan, part, all, ok)
		}
	}
}
