package tests

import (
	"fmt"
	"math"
	"slices"
	"testing"

	"loop.example/g01283/impl"
)

// fractionCall is a function of chapter 5 that takes two polynomials, and perhaps a number.
type fractionCall struct {
	name string
	call func(p int64, f, g []int64, n int64) result
}

var fractionCalls = []fractionCall{
	{"SeriesOf", func(p int64, f, g []int64, n int64) result { return listResult(impl.SeriesOf(p, f, g, n)) }},
	{"QuotientsOf", func(p int64, f, g []int64, n int64) result { return rowsResult(impl.QuotientsOf(p, f, g)) }},
	{"ConvergentsOf", func(p int64, f, g []int64, n int64) result {
		return convergentsResult(impl.ConvergentsOf(p, [][]int64{f, g}))
	}},
}

// listCall is a function of chapter 5 that takes a list of numbers, of least to most of them, their
// number being even if so told; what else it takes is as it should be.
type listCall struct {
	name        string
	least, most int
	even        bool
	call        func(p int64, list []int64) result
}

var listCalls = []listCall{
	{"MomentsOfSteps", 1, 24, false, func(p int64, list []int64) result { return momentsResult(impl.MomentsOfSteps(p, list, 24)) }},
	{"JacobiOfSteps", 2, 24, true, func(p int64, list []int64) result { return jacobiResult(impl.JacobiOfSteps(p, list)) }},
	{"PadeOf with a denominator 1", 1, 24, false, func(p int64, list []int64) result {
		return pairResult(impl.PadeOf(p, list, int64(len(list))-1, 0))
	}},
	{"PadeOf with a constant numerator", 1, 24, false, func(p int64, list []int64) result {
		return pairResult(impl.PadeOf(p, list, 0, int64(len(list))-1))
	}},
	{"PadeOf", 1, 24, false, func(p int64, list []int64) result {
		n := int64(len(list)) - 1
		return pairResult(impl.PadeOf(p, list, n/2, n-n/2))
	}},
	{"InverseSeries", 1, 24, false, func(p int64, list []int64) result { return listResult(impl.InverseSeries(p, list)) }},
	{"MultiplySeries", 0, 24, false, func(p int64, list []int64) result {
		return listResult(impl.MultiplySeries(p, list, make([]int64, len(list))))
	}},
	{"MultiplySeries exchanged", 0, 24, false, func(p int64, list []int64) result {
		return listResult(impl.MultiplySeries(p, make([]int64, len(list)), list))
	}},
}

func TestNoPolynomialsOfFractions(t *testing.T) {
	for _, c := range fractionCalls {
		for _, p := range append([]int64{2, 7, 10007}, noPrimes...) {
			for _, bad := range badPolys(p) {
				if impl.IsPoly(p, bad) {
					continue
				}
				// No prime, a number out of its range, and g of 0 come later.
				for _, n := range append([]int64{0, 1, 25}, extremes...) {
					name := fmt.Sprintf("%s for %d with no polynomial", c.name, p)
					fails(t, name, c.call(p, bad, nil, n), impl.ErrInvalid)
					fails(t, name+" in the second place", c.call(p, nil, bad, n), impl.ErrInvalid)
					fails(t, name+" in both places", c.call(p, bad, bad, n), impl.ErrInvalid)
				}
				for _, count := range []int{0, 23, 24, 25, 1000} {
					quotients := append(make([][]int64, count), bad)
					fails(t, "ConvergentsOf with no polynomial at last", convergentsResult(impl.ConvergentsOf(p, quotients)), impl.ErrInvalid)
				}
			}
		}
	}
	// A degree that would be too great comes later.
	fails(t, "ConvergentsOf too great a degree", convergentsResult(impl.ConvergentsOf(7, [][]int64{longest(7), longest(7), {0}})), impl.ErrInvalid)
}

func TestNoPrimesOfFractions(t *testing.T) {
	for _, p := range noPrimes {
		for _, c := range fractionCalls {
			for _, f := range [][]int64{nil, {1}, {0, 1}, longest(11)} {
				for _, n := range []int64{0, 1, -1, 25, math.MaxInt64} {
					if impl.IsPoly(p, f) {
						fails(t, fmt.Sprintf("%s for %d", c.name, p), c.call(p, f, f, n), impl.ErrRange)
						fails(t, fmt.Sprintf("%s for %d and 0", c.name, p), c.call(p, f, nil, n), impl.ErrRange)
					}
				}
			}
		}
		fails(t, "ConvergentsOf nothing for no prime", convergentsResult(impl.ConvergentsOf(p, nil)), impl.ErrRange)
		for _, c := range listCalls {
			for _, list := range [][]int64{nil, {0, 0}, {1, 1}, {0, 1}, {1, 0}, slices.Repeat([]int64{1}, 24)} {
				fails(t, fmt.Sprintf("%s for %d", c.name, p), c.call(p, list), impl.ErrRange)
			}
		}
	}
}

func TestNumbersOfFractionsOutOfRange(t *testing.T) {
	for _, p := range somePrimes {
		for _, n := range append([]int64{-1, 25, 26, math.MinInt32}, extremes...) {
			fails(t, "SeriesOf too many", listResult(impl.SeriesOf(p, []int64{1}, []int64{1, 1}, n)), impl.ErrRange)
			// A 0 that is divided by comes later.
			fails(t, "SeriesOf too many", listResult(impl.SeriesOf(p, []int64{1}, []int64{0, 1}, n)), impl.ErrRange)
			fails(t, "SeriesOf too many by 0", listResult(impl.SeriesOf(p, nil, nil, n)), impl.ErrRange)
		}
		for _, n := range append([]int64{0, -1, 25, 26, math.MinInt32}, extremes...) {
			fails(t, "MomentsOfSteps, too many", momentsResult(impl.MomentsOfSteps(p, []int64{1, 1}, n)), impl.ErrRange)
			fails(t, "MomentsOfSteps of 0, too many", momentsResult(impl.MomentsOfSteps(p, []int64{0, 1}, n)), impl.ErrRange)
		}
		if r := momentsResult(impl.MomentsOfSteps(p, []int64{1}, 24)); r.code != impl.ErrNone || len(r.lists[0]) != 24 {
			t.Errorf("MomentsOfSteps, 24 of them: %v", r)
		}
		fails(t, "SeriesOf by 0 at x^0", listResult(impl.SeriesOf(p, []int64{1}, []int64{0, 1}, 0)), impl.ErrState)
		fails(t, "SeriesOf by 0", listResult(impl.SeriesOf(p, []int64{1}, nil, 24)), impl.ErrState)
		fails(t, "QuotientsOf by 0", rowsResult(impl.QuotientsOf(p, longest(p), nil)), impl.ErrState)
		fails(t, "QuotientsOf 0 by 0", rowsResult(impl.QuotientsOf(p, nil, []int64{})), impl.ErrState)
	}
}

func TestListsOfFractionsOutOfRange(t *testing.T) {
	for _, c := range listCalls {
		for _, p := range somePrimes {
			for n := range 60 {
				ones := slices.Repeat([]int64{1}, n)
				r := c.call(p, ones)
				if n < c.least || n > c.most || c.even && n%2 == 1 {
					fails(t, fmt.Sprintf("%s of %d numbers", c.name, n), r, impl.ErrRange)
					// A 0 that must not be comes later.
					fails(t, fmt.Sprintf("%s of %d zeros", c.name, n), c.call(p, make([]int64, n)), impl.ErrRange)
					continue
				}
				if r.code != impl.ErrNone {
					t.Errorf("%s of %d numbers: code %d", c.name, n, r.code)
				}
				checkNumbersOfList(t, c, p, n)
			}
			fails(t, c.name+" of too many", c.call(p, make([]int64, 100000)), impl.ErrRange)
		}
	}
}

// checkNumbersOfList replaces each of n numbers, the others being 0 or 1, by what is no number modulo
// p, and by p - 1, which is one.
func checkNumbersOfList(t *testing.T, c listCall, p int64, n int) {
	t.Helper()
	for k := range n {
		for _, list := range [][]int64{slices.Repeat([]int64{1}, n), make([]int64, n)} {
			for _, x := range append([]int64{p, p + 1, math.MinInt32}, extremes...) {
				list[k] = x
				fails(t, fmt.Sprintf("%s with %d", c.name, x), c.call(p, list), impl.ErrRange)
			}
			list[k] = p - 1
			if r := c.call(p, list); r.code == impl.ErrRange {
				t.Errorf("%s of %v for %d: code %d", c.name, list, p, r.code)
			}
		}
	}
}

func TestPadeOfOutOfRange(t *testing.T) {
	for _, p := range somePrimes {
		for a := int64(-2); a < 27; a++ {
			for b := int64(-2); b < 27; b++ {
				for n := range int64(53) {
					series := make([]int64, n)
					r := pairResult(impl.PadeOf(p, series, a, b))
					if a >= 0 && b >= 0 && a+b < 24 && n == a+b+1 {
						lists(t, "PadeOf zeros", r, nil, []int64{1})
					} else {
						fails(t, fmt.Sprintf("PadeOf %d numbers, %d and %d", n, a, b), r, impl.ErrRange)
					}
				}
			}
		}
		// Sums of these may be in the range, also by overflow. That there is none comes later.
		for _, x := range extremes {
			for _, y := range slices.Concat(extremes, []int64{0, 1, -x, -x - 1, -x + 1, -x + 23, -x - 2}) {
				for _, series := range [][]int64{nil, {0}, {1}, {0, 1}, make([]int64, 24)} {
					fails(t, fmt.Sprintf("PadeOf %d and %d", x, y), pairResult(impl.PadeOf(p, series, x, y)), impl.ErrRange)
					fails(t, fmt.Sprintf("PadeOf %d and %d", y, x), pairResult(impl.PadeOf(p, series, y, x)), impl.ErrRange)
				}
			}
		}
	}
	fails(t, "PadeOf with an x too many", pairResult(impl.PadeOf(5, []int64{0, 1, 0}, 0, 1)), impl.ErrRange)
	fails(t, "PadeOf no number modulo 5", pairResult(impl.PadeOf(5, []int64{0, 5}, 0, 1)), impl.ErrRange)
}

func TestSeriesOfDifferentLengths(t *testing.T) {
	for n := range 26 {
		for m := range 26 {
			if n != m {
				fails(t, fmt.Sprintf("MultiplySeries of %d and %d numbers", n, m), listResult(impl.MultiplySeries(7, make([]int64, n), make([]int64, m))), impl.ErrRange)
			}
		}
	}
}

func TestTooManyQuotients(t *testing.T) {
	for _, p := range somePrimes {
		for _, f := range [][]int64{nil, {1}, {p - 1}, {0, 1}, longest(p)} {
			for _, n := range []int{25, 26, 10000} {
				// Too great a degree comes later.
				fails(t, "ConvergentsOf too many", convergentsResult(impl.ConvergentsOf(p, slices.Repeat([][]int64{f}, n))), impl.ErrRange)
			}
		}
	}
}

func TestNoMomentsHaveSteps(t *testing.T) {
	for _, bad := range badMoments() {
		fails(t, fmt.Sprintf("StepsOf no moments, of the prime %d", bad.Prime), listResult(impl.StepsOf(bad)), impl.ErrInvalid)
	}
}

// TestAnyFractions calls all functions with all arguments of a grid: none panics, and beside an error
// nothing is returned.
func TestAnyFractions(t *testing.T) {
	numbers := slices.Concat([]int64{0, 1, 2, 11, 12, 23, 24, 25, 10006, 10007, 91}, extremes)
	someLists := append(badPolys(7), nil, []int64{1}, []int64{0, 1}, []int64{1, 0, 3, 0}, make([]int64, 24), longest(2), longest(7), longest(7)[1:], ofDegree(24))
	for _, p := range append([]int64{2, 3, 7, 10007}, noPrimes...) {
		for _, f := range someLists {
			sound(t, "StepsOf", listResult(impl.StepsOf(of(p, f...))))
			for _, c := range listCalls {
				sound(t, c.name, c.call(p, f))
			}
			for _, n := range numbers {
				sound(t, "MomentsOfSteps", momentsResult(impl.MomentsOfSteps(p, f, n)))
				for _, m := range numbers {
					sound(t, "PadeOf", pairResult(impl.PadeOf(p, f, n, m)))
				}
				for _, g := range someLists {
					for _, c := range fractionCalls {
						sound(t, c.name, c.call(p, f, g, n))
					}
				}
			}
			for _, g := range someLists {
				sound(t, "MultiplySeries", listResult(impl.MultiplySeries(p, f, g)))
				sound(t, "ConvergentsOf", convergentsResult(impl.ConvergentsOf(p, slices.Repeat([][]int64{f, g, nil}, 8))))
			}
		}
		sound(t, "ConvergentsOf", convergentsResult(impl.ConvergentsOf(p, someLists)))
	}
}
