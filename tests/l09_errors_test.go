package tests

import (
	"fmt"
	"math"
	"strings"
	"testing"

	"loop.example/g01283/impl"
)

// pathArguments are what functions of chapter 9 take: data, a text, and numbers.
type pathArguments struct {
	j       impl.Jacobi
	path    string
	numbers [4]int64
}

// pathCall is a function of chapter 9; its ranges are the limits of its numbers for data of r numbers.
type pathCall struct {
	name   string
	ofData bool
	ofPath bool
	ranges func(r int64) [][2]int64
	call   func(x pathArguments) result
}

func noLengths(r int64) [][2]int64 { return nil }

func oneLength(r int64) [][2]int64 { return [][2]int64{{0, 24}} }

func twoLengths(r int64) [][2]int64 { return [][2]int64{{0, 24}, {0, 24}} }

func fourLengths(r int64) [][2]int64 { return [][2]int64{{0, 24}, {0, 24}, {0, 24}, {0, 24}} }

var pathCalls = []pathCall{
	{"PathSum", true, false, func(r int64) [][2]int64 { return [][2]int64{{0, 24}, {0, r - 1}, {0, r - 1}} }, func(x pathArguments) result {
		return numResult(impl.PathSum(x.j, x.numbers[0], x.numbers[1], x.numbers[2]))
	}},
	{"PathTriangle", true, false, noLengths, func(x pathArguments) result { return rowsResult(impl.PathTriangle(x.j)) }},
	{"InverseTriangle", true, false, noLengths, func(x pathArguments) result { return rowsResult(impl.InverseTriangle(x.j)) }},
	{"WeightOfPath", true, true, func(r int64) [][2]int64 { return [][2]int64{{0, r - 1}} }, func(x pathArguments) result {
		return numResult(impl.WeightOfPath(x.j, x.path, x.numbers[0]))
	}},
	{"HeightsOf", false, true, oneLength, func(x pathArguments) result { return listResult(impl.HeightsOf(x.path, x.numbers[0])) }},
	{"CountPaths", false, false, fourLengths, func(x pathArguments) result {
		return numResult(impl.CountPaths(x.numbers[0], x.numbers[1], x.numbers[2], x.numbers[3]))
	}},
	{"CountLevelPaths", false, false, fourLengths, func(x pathArguments) result {
		return numResult(impl.CountLevelPaths(x.numbers[0], x.numbers[1], x.numbers[2], x.numbers[3]))
	}},
	{"PathsOf", false, false, fourLengths, func(x pathArguments) result {
		return textsResult(impl.PathsOf(x.numbers[0], x.numbers[1], x.numbers[2], x.numbers[3]))
	}},
	{"BallotNumber", false, false, twoLengths, func(x pathArguments) result {
		return numResult(impl.BallotNumber(x.numbers[0], x.numbers[1]))
	}},
	{"ReversePath", false, true, oneLength, func(x pathArguments) result { return textResult(impl.ReversePath(x.path, x.numbers[0])) }},
	{"TurningSums", true, false, oneLength, func(x pathArguments) result { return listResult(impl.TurningSums(x.j, x.numbers[0])) }},
}

// TestNoDataOfPaths checks that what is no data comes first, whatever else is wrong.
func TestNoDataOfPaths(t *testing.T) {
	for _, c := range pathCalls {
		if !c.ofData {
			continue
		}
		for _, bad := range badData() {
			for _, path := range []string{"", "L", "D", "x", strings.Repeat("L", 25)} {
				for _, n := range append([]int64{0, 1, 12, 25}, extremes...) {
					for _, numbers := range [][4]int64{{}, {n}, {0, n}, {0, 0, n}, {n, n, n}} {
						name := fmt.Sprintf("%s of no data, of the prime %d, with %q and %v", c.name, bad.Prime, path, numbers)
						fails(t, name, c.call(pathArguments{bad, path, numbers}), impl.ErrInvalid)
					}
				}
			}
		}
	}
}

func TestNumbersOfPathsOutOfRange(t *testing.T) {
	d := &dice{291}
	for _, c := range pathCalls {
		for _, p := range somePrimes {
			for r := 1; r <= impl.MaxRows; r++ {
				for i, limits := range c.ranges(int64(r)) {
					checkPathLimits(t, c, pathArguments{j: d.data(p, r)}, i, limits)
				}
			}
		}
	}
}

// checkPathLimits replaces one of good numbers, which are all 0, by its limits, and by what is beyond
// them.
func checkPathLimits(t *testing.T, c pathCall, x pathArguments, i int, limits [2]int64) {
	t.Helper()
	for n := limits[0]; n <= limits[1]; n++ {
		x.numbers[i] = n
		if r := c.call(x); r.code != impl.ErrNone {
			t.Errorf("%s with the number %d in %v: code %d", c.name, n, limits, r.code)
		}
	}
	for _, n := range append([]int64{limits[0] - 1, limits[1] + 1, limits[1] + 2, 48, 49, math.MinInt32}, extremes...) {
		name := fmt.Sprintf("%s with the number %d at %d not in %v", c.name, n, i, limits)
		x.numbers = [4]int64{}
		x.numbers[i] = n
		fails(t, name, c.call(x), impl.ErrRange)
		// All others at the end of their ranges, where there are too many paths, and beyond it.
		for _, other := range []int64{24, n} {
			for k := range x.numbers {
				if k != i {
					x.numbers[k] = other
				}
			}
			fails(t, fmt.Sprintf("%s, others %d", name, other), c.call(x), impl.ErrRange)
		}
		if c.ofPath {
			y := x
			y.path = "X"
			fails(t, name+", and no path", c.call(y), impl.ErrRange)
		}
	}
}

func TestNoPaths(t *testing.T) {
	d := &dice{292}
	for _, c := range pathCalls {
		if !c.ofPath {
			continue
		}
		for _, path := range badPaths() {
			for _, j := range []impl.Jacobi{sample(), d.data(2, 12), d.data(10007, 12)} {
				for _, i := range append([]int64{0, 1, 2, 5, 11, 12, 23, 24, 25}, extremes...) {
					name := fmt.Sprintf("%s of %.40q from %d", c.name, path, i)
					fails(t, name, c.call(pathArguments{j, path, [4]int64{i}}), impl.ErrRange)
				}
			}
		}
	}
}

// TestLongestTexts checks that 24 steps are accepted, and 25 are not.
func TestLongestTexts(t *testing.T) {
	d := &dice{293}
	for _, c := range pathCalls {
		if !c.ofPath {
			continue
		}
		for range 50 {
			path := d.path(25, 3, 11)
			x := pathArguments{d.data(101, 12), path[:24], [4]int64{3}}
			if r := c.call(x); r.code != impl.ErrNone {
				t.Errorf("%s of %q: code %d", c.name, x.path, r.code)
			}
			x.path = path
			fails(t, fmt.Sprintf("%s of %q", c.name, path), c.call(x), impl.ErrRange)
		}
	}
}

// TestAnyPaths calls all functions with all arguments of a grid: none panics, and beside an error
// nothing is returned.
func TestAnyPaths(t *testing.T) {
	d := &dice{294}
	numbers := append([]int64{0, 1, 2, 11, 12, 13, 23, 24, 25, 48, 49}, extremes...)
	pick := func() int64 { return numbers[d.below(int64(len(numbers)))] }
	paths := append(badPaths(), "", "D", "L", "U", "UULDD", strings.Repeat("U", 24), strings.Repeat("D", 24), strings.Repeat("UD", 12))
	for _, j := range append(badData(), sample(), d.data(2, 12), d.data(10007, 12), d.data(3, 1)) {
		for _, c := range pathCalls {
			for _, path := range paths {
				for range 4 {
					sound(t, c.name, c.call(pathArguments{j, path, [4]int64{pick(), pick(), pick(), pick()}}))
				}
			}
		}
	}
	for _, a := range numbers {
		for _, b := range numbers {
			for _, c := range pathCalls {
				sound(t, c.name, c.call(pathArguments{sample(), "UD", [4]int64{a, b, b, a}}))
				sound(t, c.name, c.call(pathArguments{sample(), "UD", [4]int64{a, b, a, b}}))
				sound(t, c.name, c.call(pathArguments{sample(), "UD", [4]int64{24, a, b, 24}}))
			}
		}
	}
}
