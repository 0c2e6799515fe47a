package tests

import (
	"math"
	"slices"
	"testing"

	"loop.example/g01350/impl"
)

func callFars(name string, call func(text string) ([]int, bool)) brokenCall {
	return brokenCall{name, func(text string) (bool, bool) {
		got, ok := call(text)
		return len(got) == 0, ok
	}}
}

// withPiece are calls with a piece.
var withPiece = []brokenCall{
	callTexts("NextKeys", func(piece string) (string, bool) { return impl.NextKeys(piece, "1") }),
	callBools("IsWalk", func(piece string) (bool, bool) { return impl.IsWalk(piece, "1") }),
	callBools("IsWalk of none", func(piece string) (bool, bool) { return impl.IsWalk(piece, "") }),
	callNumbers("CountNumbers", func(piece string) (int, bool) { return impl.CountNumbers(piece, "1", 1) }),
	callNumbers("CountAllNumbers", func(piece string) (int, bool) { return impl.CountAllNumbers(piece, 1) }),
	callNumbers("CountBetween", func(piece string) (int, bool) { return impl.CountBetween(piece, "1", "1", 0) }),
	callTexts("ReachedKeys", func(piece string) (string, bool) { return impl.ReachedKeys(piece, "1") }),
	callFars("KeyDistances", func(piece string) ([]int, bool) { return impl.KeyDistances(piece, "1") }),
	callTexts("FirstWalk", func(piece string) (string, bool) { return impl.FirstWalk(piece, "1", "1") }),
	callTexts("FirstWalk to another key", func(piece string) (string, bool) { return impl.FirstWalk(piece, "1", "9") }),
	callNumbers("CountShortest", func(piece string) (int, bool) { return impl.CountShortest(piece, "1", "1") }),
	callNumbers("CountShortest to another key", func(piece string) (int, bool) { return impl.CountShortest(piece, "1", "9") }),
	callNumbers("CountRounds", func(piece string) (int, bool) { return impl.CountRounds(piece, "1", 0) }),
	callTexts("LongestOnce", func(piece string) (string, bool) { return impl.LongestOnce(piece, "1") }),
	callNumbers("CountOnce", func(piece string) (int, bool) { return impl.CountOnce(piece, "1", 1) }),
	callTexts("NumberOfRank", func(piece string) (string, bool) { return impl.NumberOfRank(piece, "1", 1, 0) }),
	callNumbers("RankOfNumber", func(piece string) (int, bool) { return impl.RankOfNumber(piece, "1") }),
	{"BusiestKey", func(piece string) (bool, bool) {
		key, count, ok := impl.BusiestKey(piece, 1)
		return key == "" && count == 0, ok
	}},
}

// withWalkKey are such calls with a single digit, once for each of their arguments that is one.
var withWalkKey = []brokenCall{
	callTexts("NextKeys", func(key string) (string, bool) { return impl.NextKeys("r", key) }),
	callNumbers("CountNumbers", func(key string) (int, bool) { return impl.CountNumbers("r", key, 2) }),
	callNumbers("CountBetween from", func(key string) (int, bool) { return impl.CountBetween("r", key, "1", 2) }),
	callNumbers("CountBetween to", func(key string) (int, bool) { return impl.CountBetween("r", "1", key, 2) }),
	callNumbers("CountBetween itself", func(key string) (int, bool) { return impl.CountBetween("r", key, key, 0) }),
	callTexts("ReachedKeys", func(key string) (string, bool) { return impl.ReachedKeys("r", key) }),
	callFars("KeyDistances", func(key string) ([]int, bool) { return impl.KeyDistances("r", key) }),
	callTexts("FirstWalk from", func(key string) (string, bool) { return impl.FirstWalk("r", key, "1") }),
	callTexts("FirstWalk to", func(key string) (string, bool) { return impl.FirstWalk("r", "1", key) }),
	callTexts("FirstWalk itself", func(key string) (string, bool) { return impl.FirstWalk("n", key, key) }),
	callNumbers("CountShortest from", func(key string) (int, bool) { return impl.CountShortest("r", key, "1") }),
	callNumbers("CountShortest to", func(key string) (int, bool) { return impl.CountShortest("r", "1", key) }),
	callNumbers("CountShortest itself", func(key string) (int, bool) { return impl.CountShortest("n", key, key) }),
	callNumbers("CountRounds", func(key string) (int, bool) { return impl.CountRounds("r", key, 2) }),
	callTexts("LongestOnce", func(key string) (string, bool) { return impl.LongestOnce("b", key) }),
	callNumbers("CountOnce", func(key string) (int, bool) { return impl.CountOnce("r", key, 2) }),
	callTexts("NumberOfRank", func(key string) (string, bool) { return impl.NumberOfRank("r", key, 2, 0) }),
}

// withWalk are such calls with a walk.
var withWalk = []brokenCall{
	callNumbers("RankOfNumber of a knight", func(walk string) (int, bool) { return impl.RankOfNumber("n", walk) }),
	callNumbers("RankOfNumber of a king", func(walk string) (int, bool) { return impl.RankOfNumber("k", walk) }),
	callNumbers("RankOfNumber of a rook", func(walk string) (int, bool) { return impl.RankOfNumber("r", walk) }),
	callNumbers("RankOfNumber of a bishop", func(walk string) (int, bool) { return impl.RankOfNumber("b", walk) }),
	callLists("WhoDials", impl.WhoDials),
	callTexts("MirrorWalk", impl.MirrorWalk),
}

// withLong are calls with a number of digits, or with a number of steps, which tell whether all other results are zero, and the last one; most is the greatest number for them.
var withLong = []struct {
	name        string
	least, most int
	call        func(long int) (bool, bool)
}{
	{"CountNumbers", 1, impl.MaxWalked, func(long int) (bool, bool) {
		got, ok := impl.CountNumbers("n", "1", long)
		return got == 0, ok
	}},
	{"CountAllNumbers", 1, impl.MaxWalked, func(long int) (bool, bool) {
		got, ok := impl.CountAllNumbers("n", long)
		return got == 0, ok
	}},
	{"CountBetween", 0, impl.MaxWalked - 1, func(steps int) (bool, bool) {
		got, ok := impl.CountBetween("n", "1", "9", steps)
		return got == 0, ok
	}},
	{"CountRounds", 0, impl.MaxWalked - 1, func(steps int) (bool, bool) {
		got, ok := impl.CountRounds("n", "1", steps)
		return got == 0, ok
	}},
	{"CountOnce", 1, 10, func(long int) (bool, bool) {
		got, ok := impl.CountOnce("n", "1", long)
		return got == 0, ok
	}},
	{"NumberOfRank", 1, impl.MaxWalked, func(long int) (bool, bool) {
		got, ok := impl.NumberOfRank("n", "1", long, 0)
		return got == "", ok
	}},
	{"BusiestKey", 1, 20, func(long int) (bool, bool) {
		key, got, ok := impl.BusiestKey("n", long)
		return key == "" && got == 0, ok
	}},
}

func TestNotPieces(t *testing.T) {
	holdInvalid(t, withPiece, notPieces)
	for _, f := range withPiece {
		for _, piece := range pieces {
			if _, ok := f.call(piece); !ok {
				t.Errorf("%s of %s fails", f.name, piece)
			}
		}
	}
}

func TestNotWalkKeys(t *testing.T) {
	holdInvalid(t, withWalkKey, notWalkKeys)
	for _, f := range withWalkKey {
		for _, key := range splitDigits() {
			if _, ok := f.call(key); !ok {
				t.Errorf("%s of %s fails", f.name, key)
			}
		}
	}
}

func TestNotWalks(t *testing.T) {
	holdInvalid(t, withWalk, notWalked)
	holdInvalid(t, withWalk[:4], []string{"11", "00", "01", "1111", "1620", "1661", "99"})
	// A digit is a walk of each piece, even if it goes nowhere from there.
	for _, f := range withWalk {
		for _, key := range splitDigits() {
			if _, ok := f.call(key); !ok {
				t.Errorf("%s of %s fails", f.name, key)
			}
		}
	}
}

func TestLongOutside(t *testing.T) {
	for _, f := range withLong {
		for long := f.least; long <= f.most; long++ {
			if _, ok := f.call(long); !ok {
				t.Errorf("%s of %d fails", f.name, long)
			}
		}
		for _, long := range []int{f.least - 1, f.least - 2, -f.most, math.MinInt, f.most + 1, f.most + 2, 41, 100, 1 << 32, 1<<32 + 1, math.MaxInt} {
			if zero, ok := f.call(long); !zero || ok {
				t.Errorf("%s of %d: zero %v, %v", f.name, long, zero, ok)
			}
		}
	}
}

// TestWalkCallsRepeat calls everything again, as no result may depend on the order of a map.
func TestWalkCallsRepeat(t *testing.T) {
	for _, piece := range pieces {
		for _, key := range splitDigits() {
			reached, _ := impl.ReachedKeys(piece, key)
			far, _ := impl.KeyDistances(piece, key)
			for range 50 {
				if again, _ := impl.ReachedKeys(piece, key); again != reached {
					t.Fatalf("ReachedKeys %s, %s: %s, and then %s", piece, key, reached, again)
				}
				if again, _ := impl.KeyDistances(piece, key); !slices.Equal(again, far) {
					t.Fatalf("KeyDistances %s, %s: %v, and then %v", piece, key, far, again)
				}
			}
		}
	}
}
