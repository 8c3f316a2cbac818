package tests

import (
	"fmt"
	"slices"
	"strings"
	"testing"

	"loop.example/g01283/impl"
)

// someHeights are heights from which paths are read one by one, and two that are none.
var someHeights = []int64{0, 1, 2, 3, 5, 23, 24, 25, -1}

func TestLimitsOfPaths(t *testing.T) {
	if impl.MaxLength != 24 || impl.MaxPaths != 400 {
		t.Errorf("MaxLength = %d, MaxPaths = %d", impl.MaxLength, impl.MaxPaths)
	}
}

// checkRead checks what is read from a text of at most 24 letters D, L and U.
func checkRead(t *testing.T, path string, i int64) {
	t.Helper()
	name := fmt.Sprintf("%q from %d", path, i)
	heights := listResult(impl.HeightsOf(path, i))
	back, code := impl.ReversePath(path, i)
	want, ok := slowHeights(path, i, 48)
	if !ok || i > 24 {
		fails(t, "HeightsOf "+name, heights, impl.ErrRange)
		fails(t, "ReversePath "+name, textResult(back, code), impl.ErrRange)
		return
	}
	lists(t, "HeightsOf "+name, heights, want)
	text(t, "ReversePath "+name, textResult(back, code), slowReverse(path))
	if last := want[len(want)-1]; last <= 24 {
		lists(t, "HeightsOf back "+name, listResult(impl.HeightsOf(back, last)), reversed(want))
		text(t, "ReversePath back "+name, textResult(impl.ReversePath(back, last)), path)
	}
}

func TestReadPaths(t *testing.T) {
	for n := range 8 {
		for _, path := range allTexts(n) {
			for _, i := range someHeights {
				checkRead(t, path, i)
			}
		}
	}
	d := &dice{271}
	for range 3000 {
		n, i := int(d.below(25)), d.below(26)
		checkRead(t, d.path(n, i, 48), i)
		// It may go below 0 from a lower height.
		checkRead(t, d.path(n, i, 48), d.below(i+1))
	}
	for n := range 25 {
		for i := range int64(26) {
			for _, letter := range []string{"D", "L", "U"} {
				checkRead(t, strings.Repeat(letter, n), i)
			}
		}
	}
}

func TestHeightsOf(t *testing.T) {
	lists(t, "HeightsOf", listResult(impl.HeightsOf("UDL", 1)), []int64{1, 2, 1, 1})
	lists(t, "HeightsOf no steps", listResult(impl.HeightsOf("", 7)), []int64{7})
	lists(t, "HeightsOf down to 0", listResult(impl.HeightsOf("DD", 2)), []int64{2, 1, 0})
	fails(t, "HeightsOf below 0", listResult(impl.HeightsOf("DD", 1)), impl.ErrRange)
	fails(t, "HeightsOf below 0 and back", listResult(impl.HeightsOf("DDUU", 1)), impl.ErrRange)
	highest := []int64{}
	for h := range int64(25) {
		highest = append(highest, 24+h)
	}
	lists(t, "HeightsOf as high as can be", listResult(impl.HeightsOf(strings.Repeat("U", 24), 24)), highest)
	lists(t, "HeightsOf from there", listResult(impl.HeightsOf(strings.Repeat("D", 24), 24)), reversed(addTo(highest, -24)))
}

func TestReversePath(t *testing.T) {
	text(t, "ReversePath", textResult(impl.ReversePath("UUL", 0)), "LDD")
	text(t, "ReversePath no steps", textResult(impl.ReversePath("", 24)), "")
	text(t, "ReversePath up and down", textResult(impl.ReversePath("ULD", 0)), "ULD")
	text(t, "ReversePath down", textResult(impl.ReversePath("DDLU", 2)), "DLUU")
	fails(t, "ReversePath below 0", textResult(impl.ReversePath("UUL", -1)), impl.ErrRange)
	fails(t, "ReversePath of no path whose reverse is one", textResult(impl.ReversePath("DU", 0)), impl.ErrRange)
}

// TestPathsOneByOne checks the promise that counts are those of the paths one by one.
func TestPathsOneByOne(t *testing.T) {
	tooMany := 0
	for n := range 9 {
		for i := range int64(10) {
			all := slowPathsFrom(n, i)
			for k := range int64(11) {
				for _, h := range []int64{0, 1, 2, 3, 4, 5, 6, 9, 10, 17, 24} {
					var want []string
					if i <= h {
						want = among(all, k, h)
					}
					if !checkPaths(t, int64(n), i, k, h, want) {
						tooMany++
					}
				}
			}
		}
	}
	if tooMany < 100 {
		t.Errorf("only %d times there were too many paths", tooMany)
	}
}

// checkPaths checks paths and counts, and reports whether there are at most 400 paths.
func checkPaths(t *testing.T, n, i, k, h int64, want []string) bool {
	t.Helper()
	name := fmt.Sprintf("of %d from %d to %d up to %d", n, i, k, h)
	num(t, "CountPaths "+name, numResult(impl.CountPaths(n, i, k, h)), int64(len(want)))
	num(t, "CountLevelPaths "+name, numResult(impl.CountLevelPaths(n, i, k, h)), int64(len(withoutLevel(want))))
	r := textsResult(impl.PathsOf(n, i, k, h))
	if len(want) > 400 {
		fails(t, "PathsOf "+name, r, impl.ErrLimit)
		return false
	}
	if !r.equals(textsResult(want, impl.ErrNone)) {
		t.Errorf("PathsOf %s = %v, want %v", name, r, want)
	}
	return true
}

func withoutLevel(paths []string) []string {
	return slices.DeleteFunc(slices.Clone(paths), func(path string) bool { return strings.Contains(path, "L") })
}

func TestPathsOf(t *testing.T) {
	is := func(name string, r result, want ...string) {
		t.Helper()
		if !r.equals(textsResult(want, impl.ErrNone)) {
			t.Errorf("%s = %v, want %q", name, r, want)
		}
	}
	is("PathsOf", textsResult(impl.PathsOf(2, 1, 1, 2)), "DU", "LL", "UD")
	is("PathsOf, not so high", textsResult(impl.PathsOf(2, 1, 1, 1)), "DU", "LL")
	is("PathsOf no steps", textsResult(impl.PathsOf(0, 3, 3, 3)), "")
	is("PathsOf no steps to another height", textsResult(impl.PathsOf(0, 3, 2, 3)))
	is("PathsOf no steps from too high", textsResult(impl.PathsOf(0, 3, 3, 2)))
	is("PathsOf to too high", textsResult(impl.PathsOf(24, 0, 2, 1)))
	is("PathsOf from too high", textsResult(impl.PathsOf(24, 2, 0, 1)))
	is("PathsOf from and to too high", textsResult(impl.PathsOf(24, 24, 24, 23)))
	is("PathsOf to too far away", textsResult(impl.PathsOf(23, 0, 24, 24)))
	is("PathsOf straight up", textsResult(impl.PathsOf(24, 0, 24, 24)), strings.Repeat("U", 24))
	is("PathsOf straight down", textsResult(impl.PathsOf(24, 24, 0, 24)), strings.Repeat("D", 24))
	is("PathsOf level", textsResult(impl.PathsOf(24, 0, 0, 0)), strings.Repeat("L", 24))
	// No count is 394 to 407: these are the counts next to the limit.
	if texts, code := impl.PathsOf(7, 3, 3, 6); len(texts) != 393 || code != impl.ErrNone {
		t.Errorf("PathsOf returned %d paths, code %d", len(texts), code)
	}
	num(t, "CountPaths above the limit", numResult(impl.CountPaths(8, 0, 1, 2)), 408)
	fails(t, "PathsOf above the limit", textsResult(impl.PathsOf(8, 0, 1, 2)), impl.ErrLimit)
	fails(t, "PathsOf", textsResult(impl.PathsOf(10, 0, 0, 24)), impl.ErrLimit)
	fails(t, "PathsOf, the most", textsResult(impl.PathsOf(24, 12, 12, 24)), impl.ErrLimit)
}

// TestLongPaths checks paths that are too long for trying all texts, but few.
func TestLongPaths(t *testing.T) {
	lengths := 0
	for n := int64(9); n <= 24; n++ {
		for _, h := range []int64{0, 1, 2, 8, 12, 23, 24} {
			for i := range int64(25) {
				for k := range int64(25) {
					if count := slowCount(n, i, k, h); count <= 400 {
						checkLongPaths(t, n, i, k, h, count)
						lengths++
					}
				}
			}
		}
	}
	if lengths < 1000 {
		t.Errorf("only %d times there were few paths", lengths)
	}
}

// checkLongPaths checks that there are as many paths as the count says, different ones in their order.
func checkLongPaths(t *testing.T, n, i, k, h, count int64) {
	t.Helper()
	texts, code := impl.PathsOf(n, i, k, h)
	name := fmt.Sprintf("PathsOf of %d from %d to %d up to %d", n, i, k, h)
	if code != impl.ErrNone || int64(len(texts)) != count {
		t.Errorf("%s are %d paths, code %d, want %d", name, len(texts), code, count)
	}
	for at, path := range texts {
		heights, ok := slowHeights(path, i, h)
		if !ok || int64(len(path)) != n || strings.Trim(path, "DLU") != "" || heights[n] != k {
			t.Errorf("%s has %q", name, path)
		}
		if at > 0 && texts[at-1] >= path {
			t.Errorf("%s has %q ahead of %q", name, texts[at-1], path)
		}
	}
}

func TestCountsOfPaths(t *testing.T) {
	for n := range int64(25) {
		for _, h := range []int64{0, 1, 2, 3, 11, 12, 23, 24} {
			for i := range int64(25) {
				for k := range int64(25) {
					name := fmt.Sprintf("of %d from %d to %d up to %d", n, i, k, h)
					num(t, "CountPaths "+name, numResult(impl.CountPaths(n, i, k, h)), slowCount(n, i, k, h))
					num(t, "CountLevelPaths "+name, numResult(impl.CountLevelPaths(n, i, k, h)), slowCountLevel(n, i, k, h))
				}
			}
		}
	}
	num(t, "CountPaths", numResult(impl.CountPaths(4, 0, 0, 24)), 9)
	num(t, "CountPaths, not so high", numResult(impl.CountPaths(4, 0, 0, 1)), 8)
	num(t, "CountPaths of the greatest length", numResult(impl.CountPaths(24, 0, 0, 24)), 3192727797)
	num(t, "CountPaths from too high", numResult(impl.CountPaths(4, 2, 0, 1)), 0)
	num(t, "CountPaths to too high", numResult(impl.CountPaths(4, 0, 2, 1)), 0)
	num(t, "CountPaths no steps from too high", numResult(impl.CountPaths(0, 2, 2, 1)), 0)
	num(t, "CountPaths no steps", numResult(impl.CountPaths(0, 2, 2, 2)), 1)
	num(t, "CountPaths no steps to another height", numResult(impl.CountPaths(0, 2, 1, 2)), 0)
	num(t, "CountLevelPaths", numResult(impl.CountLevelPaths(6, 0, 0, 2)), 4)
	num(t, "CountLevelPaths of an odd length", numResult(impl.CountLevelPaths(5, 0, 0, 24)), 0)
	num(t, "CountLevelPaths no steps", numResult(impl.CountLevelPaths(0, 0, 0, 0)), 1)
	num(t, "CountLevelPaths from too high", numResult(impl.CountLevelPaths(4, 2, 0, 1)), 0)
}

// TestBallotNumber checks that ballot numbers are counts with heights that no path exceeds.
func TestBallotNumber(t *testing.T) {
	for n := range int64(25) {
		for k := range int64(25) {
			// Of the ways to go from 0 to k those are taken off that reach -1.
			want := slowSteps24(n, k) - slowSteps24(n, k+2)
			num(t, fmt.Sprintf("BallotNumber of %d and %d", n, k), numResult(impl.BallotNumber(n, k)), want)
		}
	}
	num(t, "BallotNumber", numResult(impl.BallotNumber(5, 1)), 5)
	num(t, "BallotNumber of the greatest length", numResult(impl.BallotNumber(24, 0)), 208012)
	num(t, "BallotNumber straight up", numResult(impl.BallotNumber(24, 24)), 1)
	num(t, "BallotNumber too far away", numResult(impl.BallotNumber(23, 24)), 0)
	num(t, "BallotNumber of no steps", numResult(impl.BallotNumber(0, 0)), 1)
	for k := range 13 {
		num(t, "BallotNumber of pairs", numResult(impl.BallotNumber(2*int64(k), 0)), countBrackets(k))
	}
}
