package tests

import (
	"math/rand"
	"slices"
	"strings"
	"testing"

	"loop.example/g01350/impl"
)

// holdPlan holds a plan that a call returned; it must fail if none is wanted.
func holdPlan(t *testing.T, name string, plan []string, code string, got []string, ok bool, want []string) {
	t.Helper()
	if !slices.Equal(got, want) || ok != (want != nil) {
		t.Errorf("%s %q, %s: %q %v, not %q", name, plan, code, got, ok, want)
	}
	if ok && !impl.IsCodePlan(got) {
		t.Errorf("%s %q, %s: %q is no plan", name, plan, code, got)
	}
}

func addedByHand(plan []string, code string) []string {
	if len(plan) == 20 || !isApartFromAll(plan, code) {
		return nil
	}
	return inOrder(plan, code)
}

// inOrder puts each of some codes in front of the first one that is greater.
func inOrder(plan []string, codes ...string) []string {
	all := slices.Clone(plan)
	for _, code := range codes {
		at := 0
		for at < len(all) && all[at] < code {
			at++
		}
		all = slices.Insert(all, at, code)
	}
	return all
}

// codesApart returns those codes of a plan that a code does not begin.
func codesApart(plan []string, code string) []string {
	var apart []string
	for _, other := range plan {
		if areApart(code, other) {
			apart = append(apart, other)
		}
	}
	return apart
}

func droppedByHand(plan []string, code string) []string {
	if !slices.Contains(plan, code) || len(plan) == 1 {
		return nil
	}
	return codesApart(plan, code)
}

func splitByHand(plan []string, code string) []string {
	if !slices.Contains(plan, code) || len(code) == 6 || len(plan) > 11 {
		return nil
	}
	return inOrder(codesApart(plan, code), behind(code, walkDigits)...)
}

func joinedByHand(plan []string, code string) []string {
	if areaByHand(plan, code) != "" || isApartFromAll(plan, code) {
		return nil
	}
	return inOrder(codesApart(plan, code), code)
}

func holdChanges(t *testing.T, plan []string, code string) {
	t.Helper()
	added, ok := impl.AddCode(plan, code)
	holdPlan(t, "AddCode", plan, code, added, ok, addedByHand(plan, code))
	if ok {
		again, ok := impl.DropCode(added, code)
		holdPlan(t, "DropCode", added, code, again, ok, plan)
	}
	dropped, ok := impl.DropCode(plan, code)
	holdPlan(t, "DropCode", plan, code, dropped, ok, droppedByHand(plan, code))
	if ok {
		again, ok := impl.AddCode(dropped, code)
		holdPlan(t, "AddCode", dropped, code, again, ok, plan)
	}
	split, ok := impl.SplitCode(plan, code)
	holdPlan(t, "SplitCode", plan, code, split, ok, splitByHand(plan, code))
	if ok {
		again, ok := impl.JoinCodes(split, code)
		holdPlan(t, "JoinCodes", split, code, again, ok, plan)
		holdSamePart(t, plan, split)
	}
	joined, ok := impl.JoinCodes(plan, code)
	holdPlan(t, "JoinCodes", plan, code, joined, ok, joinedByHand(plan, code))
}

// holdSamePart holds that of two plans codes begin as many numbers.
func holdSamePart(t *testing.T, plan []string, other []string) {
	t.Helper()
	part, all, _ := impl.PartOf(plan)
	otherPart, otherAll, _ := impl.PartOf(other)
	if part != otherPart || all != otherAll {
		t.Errorf("PartOf %q: %d / %d, and of %q: %d / %d", plan, part, all, other, otherPart, otherAll)
	}
}

// codesNear returns all beginnings of codes, and these with one digit more.
func codesNear(plan []string) []string {
	var near []string
	for _, code := range plan {
		for digits := range len(code) + 1 {
			near = append(near, behind(code[:digits], walkDigits)...)
		}
	}
	slices.Sort(near)
	near = slices.Compact(near)
	return slices.DeleteFunc(near, func(code string) bool { return len(code) > impl.MaxCode })
}

func TestChangedPlans(t *testing.T) {
	short := slices.Concat(wordsOf(walkDigits, 1), wordsOf(walkDigits, 2), wordsOf(walkDigits, 3))
	random := rand.New(rand.NewSource(86))
	for _, plan := range areaPlans() {
		for _, code := range slices.Concat(short, codesNear(plan)) {
			holdChanges(t, plan, code)
		}
	}
	for _, plan := range randomPlans(300) {
		for _, code := range codesNear(plan) {
			holdChanges(t, plan, code)
		}
		for range 20 {
			holdChanges(t, plan, randomCode(random, walkDigits, impl.MaxCode))
		}
	}
}

// planChange is what a call returns, "" if it fails.
type planChange struct{ plan, code, want string }

func holdAllByHand(t *testing.T, name string, call func(list []string, code string) ([]string, bool), changes []planChange) {
	t.Helper()
	for _, c := range changes {
		got, ok := call(codesOf(c.plan), c.code)
		if strings.Join(got, ",") != c.want || ok != (c.want != "") {
			t.Errorf("%s %s, %s: %q %v, not %s", name, c.plan, c.code, got, ok, c.want)
		}
	}
}

const (
	nineteen = "00,01,02,03,04,05,06,07,08,09,10,11,12,13,14,15,16,17,18"
	twenty   = nineteen + ",19"
	eleven   = "00,01,02,03,04,05,06,07,08,09,1"
	twelve   = eleven + ",2"
)

func TestAddCodeByHand(t *testing.T) {
	holdAllByHand(t, "AddCode", impl.AddCode, []planChange{
		{"11,12,3", "0", "0,11,12,3"}, {"0,11,3", "12", "0,11,12,3"}, {"0,11,12", "3", "0,11,12,3"}, {"5", "4", "4,5"}, {"5", "6", "5,6"}, {"0,2", "100000", "0,100000,2"}, {"000000", "000001", "000000,000001"},
		{"0,11,12,3", "0", ""}, {"0,11,12,3", "12", ""}, {"0,11,12,3", "1", ""}, {"0,11,12,3", "00", ""}, {"0,11,12,3", "123", ""}, {"0,11,12,3", "300000", ""}, {"5", "5", ""}, {"5", "55", ""}, {"555555", "5", ""},
		{nineteen, "19", twenty}, {nineteen, "999999", nineteen + ",999999"}, {nineteen, "1", ""}, {twenty, "2", ""}, {twenty, "19", ""}, {twenty, "999999", ""},
		{"0,1,2,3,4,5,6,7,8", "9", "0,1,2,3,4,5,6,7,8,9"}, {"0,1,2,3,4,5,6,7,8,9", "99", ""}, {"0,1,2,3,4,5,6,7,8,9", "9", ""},
	})
}

func TestDropCodeByHand(t *testing.T) {
	holdAllByHand(t, "DropCode", impl.DropCode, []planChange{
		{"0,11,12,3", "0", "11,12,3"}, {"0,11,12,3", "11", "0,12,3"}, {"0,11,12,3", "12", "0,11,3"}, {"0,11,12,3", "3", "0,11,12"}, {"0,1", "0", "1"}, {"0,1", "1", "0"}, {twenty, "19", nineteen},
		{"0", "0", ""}, {"123456", "123456", ""}, {"0,11,12,3", "1", ""}, {"0,11,12,3", "112", ""}, {"0,11,12,3", "4", ""}, {"0", "1", ""}, {"11,12", "1", ""},
	})
}

func TestSplitCodeByHand(t *testing.T) {
	holdAllByHand(t, "SplitCode", impl.SplitCode, []planChange{
		{"5", "5", "50,51,52,53,54,55,56,57,58,59"}, {"0,1,2", "1", "0,10,11,12,13,14,15,16,17,18,19,2"}, {"1,2", "2", "1,20,21,22,23,24,25,26,27,28,29"}, {"1,2", "1", "10,11,12,13,14,15,16,17,18,19,2"},
		{"12345", "12345", "123450,123451,123452,123453,123454,123455,123456,123457,123458,123459"}, {"123456", "123456", ""}, {"0,123456", "123456", ""},
		{"0,11,12,3", "1", ""}, {"0,11,12,3", "4", ""}, {"0,11,12,3", "110", ""},
		{eleven, "1", twenty}, {eleven, "05", "00,01,02,03,04,050,051,052,053,054,055,056,057,058,059,06,07,08,09,1"}, {twelve, "1", ""}, {twelve, "2", ""}, {twelve, "00", ""}, {twenty, "19", ""},
	})
}

func TestJoinCodesByHand(t *testing.T) {
	holdAllByHand(t, "JoinCodes", impl.JoinCodes, []planChange{
		{"0,11,12,3", "1", "0,1,3"}, {"11,12,13", "1", "1"}, {"11", "1", "1"}, {"123456", "1", "1"}, {"123456", "12345", "12345"}, {"120,121,1220,13", "12", "12,13"}, {"120,121,1220,13", "1", "1"}, {"120,121,1220,13", "122", "120,121,122,13"}, {"0,10,2", "1", "0,1,2"},
		{"0,11,12,3", "0", ""}, {"0,11,12,3", "12", ""}, {"0,11,12,3", "2", ""}, {"0,11,12,3", "13", ""}, {"0,11,12,3", "00", ""}, {"0,11,12,3", "123", ""}, {"0,11,12,3", "333333", ""}, {"123456", "123456", ""}, {"123456", "123457", ""}, {"123456", "2", ""}, {"123456", "23456", ""},
		{twenty, "1", eleven}, {twenty, "0", "0,10,11,12,13,14,15,16,17,18,19"}, {twenty, "2", ""}, {twenty, "19", ""},
	})
}
