package tests

import (
	"slices"
	"strings"
	"testing"

	"loop.example/g01350/impl"
)

func TestCodePlanText(t *testing.T) {
	for _, plan := range append(areaPlans(), randomPlans(200)...) {
		want := ""
		for i, code := range plan {
			if i > 0 {
				want += ","
			}
			want += code
		}
		text, ok := impl.CodePlanText(plan)
		if text != want || !ok {
			t.Errorf("CodePlanText %q: %q %v", plan, text, ok)
		}
		if read, ok := impl.ParseCodePlan(text); !slices.Equal(read, plan) || !ok {
			t.Errorf("ParseCodePlan %q: %q %v", text, read, ok)
		}
	}
}

// holdPlanText holds that a text is read just if its parts are a plan.
func holdPlanText(t *testing.T, text string) {
	t.Helper()
	parts := codesOf(text)
	is := areAllApart(parts) && slices.IsSorted(parts) && len(parts) <= 20
	for _, part := range parts {
		is = is && part != "" && len(part) <= 6 && strings.Trim(part, walkDigits) == ""
	}
	got, ok := impl.ParseCodePlan(text)
	if ok != is || is && !slices.Equal(got, parts) || !is && got != nil {
		t.Errorf("ParseCodePlan %.100q: %q %v", text, got, ok)
	}
}

// TestParsePlanShort holds all short texts of some signs.
func TestParsePlanShort(t *testing.T) {
	for _, text := range slices.Concat(textsOf("019, ", 6), textsOf("12,", 9)) {
		holdPlanText(t, text)
	}
}

// TestParsePlanSpoilt puts further signs into texts of plans, and leaves signs out.
func TestParsePlanSpoilt(t *testing.T) {
	for _, plan := range append(areaPlans(), randomPlans(30)...) {
		text := strings.Join(plan, ",")
		for at := range len(text) + 1 {
			for _, sign := range []string{",", " ", "0", "1", "9", "a", "-", "+", ".", ";", "/", ":", "\n", "é", "\x00", "\xff"} {
				holdPlanText(t, text[:at]+sign+text[at:])
			}
			if at < len(text) {
				holdPlanText(t, text[:at]+text[at+1:])
			}
		}
	}
}

func TestParsePlanByHand(t *testing.T) {
	for _, text := range []string{"0", "9", "0,11,12,3", "000000", "00,01,1", "0,1,20", strings.Join(behind("0", walkDigits), ",") + "," + strings.Join(behind("1", walkDigits), ",")} {
		if got, ok := impl.ParseCodePlan(text); !slices.Equal(got, codesOf(text)) || !ok {
			t.Errorf("ParseCodePlan %q: %q %v", text, got, ok)
		}
	}
	for _, text := range []string{
		"", " ", ",", ",,", "0,", ",0", "0,,1", "0, 1", " 0,1", "0,1 ", "0 ,1", "0;1", "0 1", "1,0", "0,3,11,12", "11,12,3,0", "0,0", "0,00", "00,0", "12,1,123", "0000000", "0,1000000", "a", "0,a", "-1", "+1", "1.5", "x", "0,1,", "0,1,,", "\n0", "0\n", "0,1\n", "[0,1]", "0,é", "１",
		strings.Join(behind("0", walkDigits), ",") + "," + strings.Join(behind("1", walkDigits), ",") + ",2", strings.Join(behind("0", walkDigits), ",") + "," + strings.Join(behind("1", walkDigits), ",") + ",", strings.Repeat("0", 100000), strings.Repeat("0,", 100000), strings.Repeat(",", 1000000), strings.Repeat("1,2,", 100000) + "3",
	} {
		if got, ok := impl.ParseCodePlan(text); got != nil || ok {
			t.Errorf("ParseCodePlan %.100q: %q %v", text, got, ok)
		}
	}
}
