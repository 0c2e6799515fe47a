package tests

import (
	"slices"
	"strings"
	"testing"

	"loop.example/g01350/impl"
)

// withDialed are calls with keys, which tell whether all other results are zero, and the last one.
var withDialed = []struct {
	name string
	call func(keys string, corners bool) (bool, bool)
}{
	{"OneThumb", func(keys string, corners bool) (bool, bool) {
		got, ok := impl.OneThumb(keys, "5", corners)
		return got == 0, ok
	}},
	{"TwoThumbs", func(keys string, corners bool) (bool, bool) {
		got, ok := impl.TwoThumbs(keys, "4", "6", corners)
		return got == 0, ok
	}},
	{"FirstThumbs", func(keys string, corners bool) (bool, bool) {
		got, ok := impl.FirstThumbs(keys, "4", "6", corners)
		return len(got) == 0, ok
	}},
	{"CountThumbs", func(keys string, corners bool) (bool, bool) {
		got, ok := impl.CountThumbs(keys, "4", "6", corners)
		return got == 0, ok
	}},
	{"ThumbPlan", func(keys string, corners bool) (bool, bool) {
		got, ok := impl.ThumbPlan(keys, "4", "6", make([]int, len(keys)), corners)
		return got == 0, ok
	}},
	{"BestStart", func(keys string, corners bool) (bool, bool) {
		start, steps, ok := impl.BestStart(keys, corners)
		return start == "" && steps == 0, ok
	}},
	{"BestStarts", func(keys string, corners bool) (bool, bool) {
		left, right, steps, ok := impl.BestStarts(keys, corners)
		return left == "" && right == "" && steps == 0, ok
	}},
	{"MovesOf", func(keys string, corners bool) (bool, bool) {
		got, ok := impl.MovesOf(keys, "5")
		return got == "", ok
	}},
	{"LeastOrder", func(keys string, corners bool) (bool, bool) {
		order, steps, ok := impl.LeastOrder(keys, "5", corners)
		return order == "" && steps == 0, ok
	}},
	{"FarthestNext", func(keys string, corners bool) (bool, bool) {
		index, far, ok := impl.FarthestNext(keys, corners)
		return index == 0 && far == 0, ok
	}},
	{"MirrorKeys", func(keys string, corners bool) (bool, bool) {
		got, ok := impl.MirrorKeys(keys)
		return got == "", ok
	}},
	{"TurnKeys", func(keys string, corners bool) (bool, bool) {
		got, ok := impl.TurnKeys(keys)
		return got == "", ok
	}},
}

// withKey are such calls with a single key, once for each of their arguments that is one.
var withKey = []struct {
	name string
	call func(key string, corners bool) (bool, bool)
}{
	{"KeyDistance from", func(key string, corners bool) (bool, bool) {
		got, ok := impl.KeyDistance(key, "1", corners)
		return got == 0, ok
	}},
	{"KeyDistance to", func(key string, corners bool) (bool, bool) {
		got, ok := impl.KeyDistance("1", key, corners)
		return got == 0, ok
	}},
	{"OneThumb", func(key string, corners bool) (bool, bool) {
		got, ok := impl.OneThumb("1379", key, corners)
		return got == 0, ok
	}},
	{"OneThumb of no keys", func(key string, corners bool) (bool, bool) {
		got, ok := impl.OneThumb("", key, corners)
		return got == 0, ok
	}},
	{"TwoThumbs on the left", func(key string, corners bool) (bool, bool) {
		got, ok := impl.TwoThumbs("1379", key, "6", corners)
		return got == 0, ok
	}},
	{"TwoThumbs on the right", func(key string, corners bool) (bool, bool) {
		got, ok := impl.TwoThumbs("1379", "4", key, corners)
		return got == 0, ok
	}},
	{"FirstThumbs on the left", func(key string, corners bool) (bool, bool) {
		got, ok := impl.FirstThumbs("1379", key, "6", corners)
		return len(got) == 0, ok
	}},
	{"FirstThumbs on the right", func(key string, corners bool) (bool, bool) {
		got, ok := impl.FirstThumbs("1379", "4", key, corners)
		return len(got) == 0, ok
	}},
	{"CountThumbs on the left", func(key string, corners bool) (bool, bool) {
		got, ok := impl.CountThumbs("1379", key, "6", corners)
		return got == 0, ok
	}},
	{"CountThumbs on the right, of no keys", func(key string, corners bool) (bool, bool) {
		got, ok := impl.CountThumbs("", "4", key, corners)
		return got == 0, ok
	}},
	{"ThumbPlan on the left", func(key string, corners bool) (bool, bool) {
		got, ok := impl.ThumbPlan("1379", key, "6", []int{1, 1, 1, 1}, corners)
		return got == 0, ok
	}},
	{"ThumbPlan on the right", func(key string, corners bool) (bool, bool) {
		got, ok := impl.ThumbPlan("1379", "4", key, []int{0, 0, 0, 0}, corners)
		return got == 0, ok
	}},
	{"MovesOf", func(key string, corners bool) (bool, bool) {
		got, ok := impl.MovesOf("28", key)
		return got == "", ok
	}},
	{"KeysOfMoves", func(key string, corners bool) (bool, bool) {
		got, ok := impl.KeysOfMoves(key, ".")
		return got == "", ok
	}},
	{"KeysOfMoves of none", func(key string, corners bool) (bool, bool) {
		got, ok := impl.KeysOfMoves(key, "")
		return got == "", ok
	}},
	{"LeastOrder", func(key string, corners bool) (bool, bool) {
		order, steps, ok := impl.LeastOrder("1937", key, corners)
		return order == "" && steps == 0, ok
	}},
	{"KeysWithin", func(key string, corners bool) (bool, bool) {
		got, ok := impl.KeysWithin(key, 1, corners)
		return got == "", ok
	}},
}

func TestNotDialed(t *testing.T) {
	for _, f := range withDialed {
		for _, corners := range bothCorners {
			for _, keys := range notDialed {
				if zero, ok := f.call(keys, corners); !zero || ok {
					t.Errorf("%s of %.60q: zero %v, %v", f.name, keys, zero, ok)
				}
			}
			if _, ok := f.call("1379", corners); !ok {
				t.Errorf("%s of keys fails", f.name)
			}
		}
	}
}

func TestNoKeysToDial(t *testing.T) {
	for _, f := range withDialed {
		if _, ok := f.call("", false); ok != (f.name != "FarthestNext") {
			t.Errorf("%s of no keys: %v", f.name, ok)
		}
	}
}

func TestNotDialKeys(t *testing.T) {
	for _, f := range withKey {
		for _, corners := range bothCorners {
			for _, key := range notDialKeys {
				if zero, ok := f.call(key, corners); !zero || ok {
					t.Errorf("%s of %.60q: zero %v, %v", f.name, key, zero, ok)
				}
			}
			for _, key := range strings.Split(dialSigns, "") {
				if _, ok := f.call(key, corners); !ok {
					t.Errorf("%s of %s fails", f.name, key)
				}
			}
		}
	}
}

// TestPlansStay gives plans that have room behind them, and then holds plans and room against what they were.
func TestPlansStay(t *testing.T) {
	for _, plan := range [][]int{{0, 1, 0, 0}, {1, 1, 1, 1}, {0, 2, 0, 0}, {0, 1}, {0, 1, 0, 0, 1}} {
		room := append(slices.Clone(plan), 7, 8, 9)
		impl.ThumbPlan("1379", "4", "6", room[:len(plan)], false)
		if !slices.Equal(room, append(slices.Clone(plan), 7, 8, 9)) {
			t.Errorf("%v became %v", plan, room)
		}
	}
}

// TestPlansAreNew writes into a result: later ones may not change by this.
func TestPlansAreNew(t *testing.T) {
	for range 2 {
		plan, ok := impl.FirstThumbs("1379", "4", "6", false)
		if !slices.Equal(plan, []int{0, 1, 0, 0}) || !ok {
			t.Fatal("FirstThumbs", plan, ok)
		}
		for i := range plan[:cap(plan)] {
			plan[:cap(plan)][i] = 9
		}
	}
}
