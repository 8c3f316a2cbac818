package tests

import (
	"fmt"
	"math"
	"testing"

	"loop.example/g01283/impl"
)

// dataCall is a function of the chapters 3 to 5 that takes data and at most two numbers; its ranges are the
// limits of these numbers for the prime p and data of n numbers.
type dataCall struct {
	name   string
	ranges func(p, n int64) [][2]int64
	call   func(j impl.Jacobi, a, b int64) result
}

func noNumbers(p, n int64) [][2]int64 { return nil }

var dataCalls = []dataCall{
	{"PolyOf", func(p, n int64) [][2]int64 { return [][2]int64{{0, n}} }, func(j impl.Jacobi, a, b int64) result {
		return listResult(impl.PolyOf(j, a))
	}},
	{"AssociatedOf", func(p, n int64) [][2]int64 { return [][2]int64{{0, n}} }, func(j impl.Jacobi, a, b int64) result {
		return listResult(impl.AssociatedOf(j, a))
	}},
	{"ValueOf", func(p, n int64) [][2]int64 { return [][2]int64{{0, n}, {0, p - 1}} }, func(j impl.Jacobi, a, b int64) result {
		return numResult(impl.ValueOf(j, a, b))
	}},
	{"MatrixOf", noNumbers, func(j impl.Jacobi, a, b int64) result { return rowsResult(impl.MatrixOf(j)) }},
	{"WronskiAt", func(p, n int64) [][2]int64 { return [][2]int64{{0, n - 1}} }, func(j impl.Jacobi, a, b int64) result {
		return listResult(impl.WronskiAt(j, a))
	}},
	{"CutJacobi", func(p, n int64) [][2]int64 { return [][2]int64{{1, n}} }, func(j impl.Jacobi, a, b int64) result {
		return jacobiResult(impl.CutJacobi(j, a))
	}},
	{"ShiftJacobi", func(p, n int64) [][2]int64 { return [][2]int64{{0, n - 1}} }, func(j impl.Jacobi, a, b int64) result {
		return jacobiResult(impl.ShiftJacobi(j, a))
	}},
	{"ReverseJacobi", noNumbers, func(j impl.Jacobi, a, b int64) result { return jacobiResult(impl.ReverseJacobi(j)) }},
	{"AffineJacobi", func(p, n int64) [][2]int64 { return [][2]int64{{1, p - 1}, {0, p - 1}} }, func(j impl.Jacobi, a, b int64) result {
		return jacobiResult(impl.AffineJacobi(j, a, b))
	}},
	{"MomentsOfJacobi", func(p, n int64) [][2]int64 { return [][2]int64{{1, 2 * n}} }, func(j impl.Jacobi, a, b int64) result {
		return momentsResult(impl.MomentsOfJacobi(j, a))
	}},
	{"SeriesOfJacobi", func(p, n int64) [][2]int64 { return [][2]int64{{0, 24}} }, func(j impl.Jacobi, a, b int64) result {
		return listResult(impl.SeriesOfJacobi(j, a))
	}},
}

func TestNoDataComeFirst(t *testing.T) {
	for _, c := range dataCalls {
		for _, bad := range badData() {
			// Numbers out of their ranges come later.
			for _, a := range append([]int64{0, 1, 7, 13}, extremes...) {
				name := fmt.Sprintf("%s of no data, of the prime %d", c.name, bad.Prime)
				fails(t, name, c.call(bad, a, a), impl.ErrInvalid)
				fails(t, name, c.call(bad, a, 1), impl.ErrInvalid)
				fails(t, name, c.call(bad, 1, a), impl.ErrInvalid)
			}
		}
	}
}

func TestNumbersOfDataOutOfRange(t *testing.T) {
	d := &dice{56}
	for _, c := range dataCalls {
		for _, p := range somePrimes {
			for _, j := range someData(d, p) {
				good := []int64{1, 1}
				for i, limits := range c.ranges(p, int64(len(j.Alpha))) {
					good[i] = limits[1]
				}
				for i, limits := range c.ranges(p, int64(len(j.Alpha))) {
					checkLimits(t, c, j, good, i, limits)
				}
			}
		}
	}
}

// checkLimits replaces one of good numbers by its limits, and by what is beyond them.
func checkLimits(t *testing.T, c dataCall, j impl.Jacobi, good []int64, i int, limits [2]int64) {
	t.Helper()
	with := func(x int64) result {
		numbers := []int64{good[0], good[1]}
		numbers[i] = x
		return c.call(j, numbers[0], numbers[1])
	}
	for _, x := range limits {
		if r := with(x); r.code != impl.ErrNone {
			t.Errorf("%s with the number %d in %v: code %d", c.name, x, limits, r.code)
		}
	}
	for _, x := range append([]int64{limits[0] - 1, limits[1] + 1, limits[1] + 2, math.MinInt32}, extremes...) {
		fails(t, fmt.Sprintf("%s with the number %d not in %v", c.name, x, limits), with(x), impl.ErrRange)
	}
}

func TestTwoNumbersOutOfRange(t *testing.T) {
	for _, x := range append([]int64{8}, extremes...) {
		fails(t, "ValueOf", numResult(impl.ValueOf(sample(), x, x)), impl.ErrRange)
		fails(t, "AffineJacobi", jacobiResult(impl.AffineJacobi(sample(), x, x)), impl.ErrRange)
	}
}

// TestAnyData calls all functions with all arguments of a grid: none panics, and beside an error
// nothing is returned.
func TestAnyData(t *testing.T) {
	numbers := append([]int64{0, 1, 2, 3, 11, 12, 13, 14, 10006, 10007}, noPrimes...)
	someLists := append(badPolys(7), nil, []int64{1}, []int64{0, 1}, []int64{6, 4, 1}, []int64{5, 1, 4, 1}, longest(2), longest(7), ofDegree(24))
	d := &dice{57}
	for _, j := range append(badData(), sample(), d.data(2, 12), d.data(10007, 12), d.data(3, 1)) {
		impl.IsJacobi(j)
		for _, c := range dataCalls {
			for _, a := range numbers {
				for _, b := range numbers {
					sound(t, c.name, c.call(j, a, b))
				}
			}
		}
	}
	for _, p := range append([]int64{2, 3, 7, 10007}, noPrimes...) {
		for _, f := range someLists {
			sound(t, "CharacteristicPoly", listResult(impl.CharacteristicPoly(p, [][]int64{f, f})))
			sound(t, "CharacteristicPoly", listResult(impl.CharacteristicPoly(p, someLists)))
			for _, g := range someLists {
				sound(t, "CharacteristicPoly", listResult(impl.CharacteristicPoly(p, [][]int64{f, g, f})))
				for _, b := range numbers {
					sound(t, "FindJacobi", jacobiResult(impl.FindJacobi(p, f, g, b)))
				}
			}
		}
	}
}
