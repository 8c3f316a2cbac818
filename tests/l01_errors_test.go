package tests

import (
	"fmt"
	"math"
	"testing"

	"loop.example/g01283/impl"
)

// polyCall is a function of chapter 1 that takes polynomials: count of them, and perhaps a number.
type polyCall struct {
	name    string
	count   int
	numbers bool
	call    func(p int64, f, g []int64, k int64) result
}

var polyCalls = []polyCall{
	{"AddPolys", 2, true, func(p int64, f, g []int64, k int64) result { return listResult(impl.AddPolys(p, f, g, k)) }},
	{"MultiplyPolys", 2, false, func(p int64, f, g []int64, k int64) result { return listResult(impl.MultiplyPolys(p, f, g)) }},
	{"DividePolys", 2, false, func(p int64, f, g []int64, k int64) result { return pairResult(impl.DividePolys(p, f, g)) }},
	{"PowerPoly", 1, true, func(p int64, f, g []int64, k int64) result { return listResult(impl.PowerPoly(p, f, k)) }},
	{"MonicPoly", 1, false, func(p int64, f, g []int64, k int64) result { return listResult(impl.MonicPoly(p, f)) }},
	{"DerivativeOf", 1, false, func(p int64, f, g []int64, k int64) result { return listResult(impl.DerivativeOf(p, f)) }},
	{"ValueAt", 1, true, func(p int64, f, g []int64, k int64) result { return numResult(impl.ValueAt(p, f, k)) }},
	{"GcdPolys", 2, false, func(p int64, f, g []int64, k int64) result { return listResult(impl.GcdPolys(p, f, g)) }},
	{"ShiftPoly", 1, true, func(p int64, f, g []int64, k int64) result { return listResult(impl.ShiftPoly(p, f, k)) }},
	{"ComposePolys", 2, false, func(p int64, f, g []int64, k int64) result { return listResult(impl.ComposePolys(p, f, g)) }},
	{"PolyText", 1, false, func(p int64, f, g []int64, k int64) result { return textResult(impl.PolyText(p, f)) }},
}

func badPolys(p int64) [][]int64 {
	return [][]int64{
		{0}, {1, 0}, {p}, {1, p, 1}, {-1, 1}, {1, -1}, {math.MinInt64}, {1, math.MaxInt64}, ofDegree(25), make([]int64, 1000),
	}
}

func TestNoPolynomialsComeFirst(t *testing.T) {
	for _, c := range polyCalls {
		for _, p := range append([]int64{2, 7, 10007}, noPrimes...) {
			for _, bad := range badPolys(p) {
				if impl.IsPoly(p, bad) {
					continue
				}
				// A number out of its range, a divisor 0 and a degree above the limit come later.
				for _, k := range []int64{0, 1, -1, p, math.MaxInt64} {
					name := fmt.Sprintf("%s for %d and %v", c.name, p, bad)
					fails(t, name, c.call(p, bad, nil, k), impl.ErrInvalid)
					if c.count == 2 {
						fails(t, name+" in the second place", c.call(p, nil, bad, k), impl.ErrInvalid)
						fails(t, name+" in both places", c.call(p, bad, bad, k), impl.ErrInvalid)
					}
				}
			}
		}
	}
}

func TestNoPrimesComeNext(t *testing.T) {
	for _, c := range polyCalls {
		for _, p := range noPrimes {
			for _, f := range [][]int64{nil, {1}, {0, 1}, longest(11)} {
				for _, k := range []int64{0, 1, -1, 25, p, math.MaxInt64} {
					if impl.IsPoly(p, f) {
						fails(t, fmt.Sprintf("%s for %d", c.name, p), c.call(p, f, f, k), impl.ErrRange)
						fails(t, fmt.Sprintf("%s for %d and 0", c.name, p), c.call(p, f, nil, k), impl.ErrRange)
					}
				}
			}
		}
	}
}

func TestNumbersOutOfRange(t *testing.T) {
	for _, c := range polyCalls {
		if !c.numbers {
			continue
		}
		for _, p := range []int64{2, 7, 10007} {
			last := p - 1
			if c.name == "PowerPoly" {
				last = impl.MaxDegree
			}
			for _, f := range [][]int64{nil, {1}, {0, 1}, longest(p)} {
				for _, k := range append([]int64{last + 1, last + 2}, extremes...) {
					fails(t, fmt.Sprintf("%s for %d and %d", c.name, p, k), c.call(p, f, f, k), impl.ErrRange)
				}
			}
			if r := c.call(p, []int64{1, 1}, []int64{1, 1}, last); r.code != impl.ErrNone {
				t.Errorf("%s for %d and %d: code %d", c.name, p, last, r.code)
			}
		}
	}
}

func TestDivisorsOfZero(t *testing.T) {
	for _, p := range []int64{2, 7, 10007} {
		for _, f := range [][]int64{nil, {1}, {0, 1}, longest(p)} {
			fails(t, "DividePolys by 0", pairResult(impl.DividePolys(p, f, nil)), impl.ErrState)
			fails(t, "DividePolys by 0", pairResult(impl.DividePolys(p, f, []int64{})), impl.ErrState)
		}
		fails(t, "MonicPoly of 0", listResult(impl.MonicPoly(p, nil)), impl.ErrState)
	}
}

// TestAnyArguments calls all functions with all arguments of a grid: none panics, and beside an
// error nothing is returned.
func TestAnyArguments(t *testing.T) {
	numbers := append([]int64{0, 1, 2, 3, 24, 25, 10006, 10007, 1000000000, 1000000001}, noPrimes...)
	someLists := append(badPolys(7), nil, []int64{}, []int64{1}, []int64{0, 1}, longest(2), longest(7), ofDegree(24))
	for _, p := range append([]int64{2, 3, 7, 10007}, noPrimes...) {
		for _, f := range someLists {
			impl.IsPoly(p, f)
			for _, g := range someLists {
				for _, k := range numbers {
					for _, c := range polyCalls {
						if c.count == 2 || len(g) == 0 {
							sound(t, c.name, c.call(p, f, g, k))
						}
					}
				}
				sound(t, "InterpolatePoly", listResult(impl.InterpolatePoly(p, f, g)))
			}
		}
		for _, x := range numbers {
			sound(t, "InverseOf", numResult(impl.InverseOf(p, x)))
			for _, k := range numbers {
				sound(t, "PowerOf", numResult(impl.PowerOf(p, x, k)))
			}
		}
	}
}
