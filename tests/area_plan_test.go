package tests

import (
	"math/rand"
	"slices"
	"strings"
	"testing"

	"loop.example/g01350/impl"
)

// codesOf returns the codes of a text, with `,` between them.
func codesOf(text string) []string { return strings.Split(text, ",") }

// behind returns a code with each of some digits behind it.
func behind(code string, digits string) []string {
	var codes []string
	for i := range len(digits) {
		codes = append(codes, code+digits[i:i+1])
	}
	return codes
}

// examplePlan is that of the document.
var examplePlan = []string{"0", "11", "12", "3"}

// fullPlans have no room for a further code.
func fullPlans() [][]string {
	return [][]string{
		behind("", walkDigits),
		slices.Concat(behind("", "012345678"), behind("9", walkDigits)),
		slices.Concat(behind("0", walkDigits), behind("", "123456789")),
		slices.Concat(behind("", "0123"), behind("4", walkDigits), behind("", "56789")),
	}
}

// wantingPlans have room for just one further code of its length, which stands in front of them here.
func wantingPlans() [][]string {
	return [][]string{
		slices.Concat([]string{"9"}, behind("", "012345678")),
		slices.Concat([]string{"0"}, behind("", "123456789")),
		slices.Concat([]string{"5"}, behind("", "012346789")),
		slices.Concat([]string{"99"}, behind("", "012345678"), behind("9", "012345678")),
		slices.Concat([]string{"00"}, behind("0", "123456789"), behind("", "123456789")),
		slices.Concat([]string{"43"}, behind("", "0123"), behind("4", "012456789"), behind("", "56789")),
	}
}

// largePlans have just MaxCodes codes.
func largePlans() [][]string {
	return [][]string{
		slices.Concat(behind("0", walkDigits), behind("1", walkDigits)),
		slices.Concat(behind("00000", walkDigits), behind("99999", walkDigits)),
		slices.Concat(behind("", "012345678"), behind("90", walkDigits), []string{"91"}),
		slices.Concat(behind("", "012"), behind("3", "01234"), behind("40", "56789"), behind("500", "12"), behind("6789", "08"), []string{"68", "777777", "9"}),
	}
}

// areaPlans are plans of every kind.
func areaPlans() [][]string {
	plans := [][]string{
		examplePlan,
		{"0"}, {"5"}, {"9"}, {"00"}, {"12"}, {"99"}, {"000000"}, {"123456"}, {"999999"},
		codesOf("0,1"), codesOf("0,1,20"), codesOf("0,1,3"), codesOf("0,10,110,1110,11110,111110,111111"), codesOf("00,01"), codesOf("000000,000001"), codesOf("0,9"), codesOf("08,1"), codesOf("1,2,30,310,3110,31110,311110"),
		codesOf("000000,000001,00001,0001,001,01,1"), codesOf("100000,2"), codesOf("12,130,131,1320,99999"),
	}
	for _, wanting := range wantingPlans() {
		plans = append(plans, wanting[1:])
	}
	return slices.Concat(plans, fullPlans(), largePlans())
}

// randomCode has up to so many of some digits.
func randomCode(random *rand.Rand, digits string, most int) string {
	return randomPin(random, digits, 1+random.Intn(most))
}

// areApart holds two codes against each other digit by digit: none may begin the other one.
func areApart(a string, b string) bool {
	for i := range min(len(a), len(b)) {
		if a[i] != b[i] {
			return true
		}
	}
	return false
}

func isApartFromAll(list []string, code string) bool {
	for _, other := range list {
		if !areApart(code, other) {
			return false
		}
	}
	return true
}

// randomPlan puts in random codes that are apart from those before.
func randomPlan(random *rand.Rand, digits string, most int) []string {
	var plan []string
	for range 1 + random.Intn(40) {
		code := randomCode(random, digits, most)
		if isApartFromAll(plan, code) && len(plan) < impl.MaxCodes {
			plan = append(plan, code)
		}
	}
	slices.Sort(plan)
	return plan
}

func randomPlans(plans int) [][]string {
	random := rand.New(rand.NewSource(81))
	var all [][]string
	for range plans {
		all = append(all, randomPlan(random, walkDigits, 1+random.Intn(impl.MaxCode)), randomPlan(random, "019", 1+random.Intn(impl.MaxCode)))
	}
	return all
}

// areAllApart holds all two codes of a list against each other.
func areAllApart(codes []string) bool {
	for i, code := range codes {
		if !isApartFromAll(codes[:i], code) {
			return false
		}
	}
	return true
}

// holdCodes holds what is told of some codes in any order.
func holdCodes(t *testing.T, codes []string) {
	t.Helper()
	ordered := slices.Sorted(slices.Values(codes))
	apart := areAllApart(codes)
	if is := impl.IsCodePlan(codes); is != (apart && slices.Equal(codes, ordered)) {
		t.Errorf("IsCodePlan %q: %v", codes, is)
	}
	got, ok := impl.MakePlan(codes)
	if ok != apart || apart && !slices.Equal(got, ordered) || !apart && got != nil {
		t.Errorf("MakePlan %q: %q %v", codes, got, ok)
	}
	conflicts, ok := impl.ConflictsOf(codes)
	if !samePairs(conflicts, conflictsByHand(codes)) || !ok {
		t.Errorf("ConflictsOf %q: %v %v", codes, conflicts, ok)
	}
	if (len(conflicts) == 0) != apart {
		t.Errorf("ConflictsOf %q: %v, but apart %v", codes, conflicts, apart)
	}
}

func conflictsByHand(codes []string) [][]int {
	var pairs [][]int
	for at := range len(codes) * len(codes) {
		first, second := at/len(codes), at%len(codes)
		a, b := codes[first], codes[second]
		if first != second && len(a) <= len(b) && b[:len(a)] == a {
			pairs = append(pairs, []int{first, second})
		}
	}
	return pairs
}

// TestShortLists holds all lists of up to four of some codes, those that are there more than once too.
func TestShortLists(t *testing.T) {
	codes := []string{"0", "00", "001", "01", "1", "10", "2", "9"}
	lists := [][]string{{}}
	for range 4 {
		var longer [][]string
		for _, list := range lists {
			for _, code := range codes {
				longer = append(longer, append(slices.Clone(list), code))
			}
		}
		for _, list := range longer {
			holdCodes(t, list)
		}
		lists = longer
	}
}

func TestPlansInAnyOrder(t *testing.T) {
	random := rand.New(rand.NewSource(82))
	for _, plan := range append(areaPlans(), randomPlans(200)...) {
		holdCodes(t, plan)
		if !impl.IsCodePlan(plan) {
			t.Errorf("%q is a plan", plan)
		}
		backward := slices.Clone(plan)
		slices.Reverse(backward)
		holdCodes(t, backward)
		mixed := slices.Clone(plan)
		random.Shuffle(len(mixed), func(i int, j int) { mixed[i], mixed[j] = mixed[j], mixed[i] })
		holdCodes(t, mixed)
		if got, ok := impl.MakePlan(mixed); !slices.Equal(got, plan) || !ok {
			t.Errorf("MakePlan %q: %q %v", mixed, got, ok)
		}
		if len(plan) < impl.MaxCodes {
			at := random.Intn(len(plan))
			holdCodes(t, slices.Insert(slices.Clone(mixed), at, plan[0]))
			holdCodes(t, slices.Insert(slices.Clone(plan), at, plan[at][:1]))
			holdCodes(t, append(slices.Clone(mixed), "0"))
			holdCodes(t, append(slices.Clone(plan), "999999"))
		}
	}
}

// TestMixedCodes holds codes of which many begin others.
func TestMixedCodes(t *testing.T) {
	random := rand.New(rand.NewSource(83))
	for range 3000 {
		var codes []string
		for range 1 + random.Intn(impl.MaxCodes) {
			codes = append(codes, randomCode(random, "0189"[random.Intn(3):], 1+random.Intn(impl.MaxCode)))
		}
		holdCodes(t, codes)
		slices.Sort(codes)
		holdCodes(t, codes)
	}
}

func TestPlansByHand(t *testing.T) {
	for _, c := range []struct{ codes, plan string }{
		{"0,11,12,3", "0,11,12,3"}, {"12,3,0,11", "0,11,12,3"}, {"3,12,11,0", "0,11,12,3"}, {"7", "7"}, {"2,10", "10,2"}, {"9,08", "08,9"}, {"100000,10001,1001", "100000,10001,1001"},
		{"12,1,123", ""}, {"1,11", ""}, {"11,1", ""}, {"1,1", ""}, {"1,2,1", ""}, {"1,10,2", ""}, {"12,2,123456", ""}, {"123456,123456", ""}, {"1,9,12", ""}, {"11,12,13,2,1", ""},
	} {
		got, ok := impl.MakePlan(codesOf(c.codes))
		if strings.Join(got, ",") != c.plan || ok != (c.plan != "") {
			t.Errorf("MakePlan %s: %q %v", c.codes, got, ok)
		}
		if is := impl.IsCodePlan(codesOf(c.codes)); is != (c.codes == c.plan) {
			t.Errorf("IsCodePlan %s: %v", c.codes, is)
		}
	}
}

func TestConflictsByHand(t *testing.T) {
	for _, c := range []struct{ codes, pairs string }{
		{"12,1,123", "02 10 12"}, {"1", ""}, {"0,11,12,3", ""}, {"1,1", "01 10"}, {"1,12", "01"}, {"12,1", "10"}, {"5,5,5", "01 02 10 12 20 21"},
		{"123,12,1", "10 20 21"}, {"1,12,123", "01 02 12"}, {"1,2,12,21,1", "02 04 13 40 42"}, {"21,12,121", "12"}, {"000000,0,000000", "02 10 12 20"},
	} {
		got, ok := impl.ConflictsOf(codesOf(c.codes))
		if pairsText(got) != c.pairs || !ok {
			t.Errorf("ConflictsOf %s: %v %v", c.codes, got, ok)
		}
	}
	got, ok := impl.ConflictsOf(slices.Repeat([]string{"123456"}, impl.MaxCodes))
	if len(got) != impl.MaxCodes*(impl.MaxCodes-1) || !ok {
		t.Errorf("ConflictsOf equal codes: %d %v", len(got), ok)
	}
}

func TestSharedStart(t *testing.T) {
	random := rand.New(rand.NewSource(84))
	codes := slices.Concat(wordsOf("01", 1), wordsOf("01", 2), wordsOf("01", 3), wordsOf("019", 4), codesOf("0,9,123456,123457,123465,999999,000000,000001,12345,1234"))
	for range 100 {
		codes = append(codes, randomCode(random, "12", impl.MaxCode), randomPin(random, "12", impl.MaxCode))
	}
	for _, a := range codes {
		for _, b := range codes {
			want := 0
			for want < min(len(a), len(b)) && a[want] == b[want] {
				want++
			}
			if got, ok := impl.SharedStart(a, b); got != a[:want] || !ok {
				t.Errorf("SharedStart %s, %s: %q %v", a, b, got, ok)
			}
		}
	}
}

func TestSharedStartByHand(t *testing.T) {
	for _, c := range []struct{ a, b, start string }{
		{"12", "13", "1"}, {"1", "2", ""}, {"12", "22", ""}, {"123", "123", "123"}, {"123", "1", "1"}, {"1", "123", "1"}, {"123456", "123457", "12345"}, {"123456", "123456", "123456"}, {"12345", "123456", "12345"}, {"0", "000000", "0"}, {"120", "1020", "1"}, {"121", "131", "1"},
	} {
		if got, ok := impl.SharedStart(c.a, c.b); got != c.start || !ok {
			t.Errorf("SharedStart %s, %s: %q %v", c.a, c.b, got, ok)
		}
	}
}
