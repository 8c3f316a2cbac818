package tests

import (
	"fmt"
	"math"
	"slices"
	"testing"

	"loop.example/g01283/impl"
)

// rootCall is a function of chapter 6 that takes polynomials: count of them, and perhaps a number in
// first..last(p).
type rootCall struct {
	name  string
	count int
	first int64
	last  func(p int64) int64
	// zero reports whether 0 is taken as a polynomial.
	zero bool
	call func(p int64, f, g []int64, k int64) result
}

func modulusLess1(p int64) int64 { return p - 1 }

func maxDegree(p int64) int64 { return impl.MaxDegree }

var rootCalls = []rootCall{
	{"RootsIn", 1, 0, nil, false, func(p int64, f, g []int64, k int64) result { return listResult(impl.RootsIn(p, f)) }},
	{"MultiplicityOf", 1, 0, modulusLess1, false, func(p int64, f, g []int64, k int64) result { return numResult(impl.MultiplicityOf(p, f, k)) }},
	{"DoesSplit", 1, 0, nil, false, func(p int64, f, g []int64, k int64) result { return boolResult(impl.DoesSplit(p, f)) }},
	{"IsSimplePolynomial", 1, 0, nil, false, func(p int64, f, g []int64, k int64) result { return boolResult(impl.IsSimplePolynomial(p, f)) }},
	{"SimplePart", 1, 0, nil, false, func(p int64, f, g []int64, k int64) result { return listResult(impl.SimplePart(p, f)) }},
	{"ResultantOf", 2, 0, nil, false, func(p int64, f, g []int64, k int64) result { return numResult(impl.ResultantOf(p, f, g)) }},
	{"DiscriminantOf", 1, 0, nil, false, func(p int64, f, g []int64, k int64) result { return numResult(impl.DiscriminantOf(p, f)) }},
	{"CommonRoots", 2, 0, nil, false, func(p int64, f, g []int64, k int64) result { return listResult(impl.CommonRoots(p, f, g)) }},
	{"MoveRoots", 1, 0, modulusLess1, true, func(p int64, f, g []int64, k int64) result { return listResult(impl.MoveRoots(p, f, k)) }},
	{"ScaleRoots", 1, 1, modulusLess1, true, func(p int64, f, g []int64, k int64) result { return listResult(impl.ScaleRoots(p, f, k)) }},
	{"ReversePolynomial", 1, 0, nil, false, func(p int64, f, g []int64, k int64) result { return listResult(impl.ReversePolynomial(p, f)) }},
	{"PowerSums", 1, 0, maxDegree, false, func(p int64, f, g []int64, k int64) result { return listResult(impl.PowerSums(p, f, k)) }},
}

func TestNoPolynomialsHaveNoRoots(t *testing.T) {
	for _, c := range rootCalls {
		for _, p := range append([]int64{2, 7, 10007}, noPrimes...) {
			for _, bad := range badPolys(p) {
				if impl.IsPoly(p, bad) {
					continue
				}
				// No prime, a number out of its range, and a polynomial 0 come later.
				for _, k := range append([]int64{0, 1, 25, p}, extremes...) {
					name := fmt.Sprintf("%s for %d with no polynomial", c.name, p)
					fails(t, name, c.call(p, bad, nil, k), impl.ErrInvalid)
					if c.count == 2 {
						fails(t, name+" in the second place", c.call(p, nil, bad, k), impl.ErrInvalid)
						fails(t, name+" in both places", c.call(p, bad, bad, k), impl.ErrInvalid)
					}
				}
			}
		}
	}
}

func TestNoPrimesHaveNoRoots(t *testing.T) {
	for _, p := range noPrimes {
		for _, c := range rootCalls {
			for _, f := range [][]int64{nil, {1}, {0, 1}, longest(11)} {
				for _, k := range []int64{0, 1, -1, 25, p, math.MaxInt64} {
					if impl.IsPoly(p, f) {
						fails(t, fmt.Sprintf("%s for %d", c.name, p), c.call(p, f, f, k), impl.ErrRange)
						fails(t, fmt.Sprintf("%s for %d and 0", c.name, p), c.call(p, f, nil, k), impl.ErrRange)
					}
				}
			}
		}
		for _, roots := range [][]int64{nil, {0}, {1, 0}, make([]int64, 24), make([]int64, 25)} {
			fails(t, fmt.Sprintf("PolynomialOfRoots for %d", p), listResult(impl.PolynomialOfRoots(p, roots)), impl.ErrRange)
		}
	}
}

func TestNumbersOfRootsOutOfRange(t *testing.T) {
	for _, c := range rootCalls {
		if c.last == nil {
			continue
		}
		for _, p := range somePrimes {
			last := c.last(p)
			// A polynomial 0 comes later.
			for _, f := range [][]int64{nil, {1}, {0, 1}, longest(p)} {
				for _, k := range append([]int64{c.first - 1, last + 1, last + 2, math.MinInt32}, extremes...) {
					fails(t, fmt.Sprintf("%s for %d and %d", c.name, p, k), c.call(p, f, nil, k), impl.ErrRange)
				}
			}
			for _, k := range []int64{c.first, last} {
				for _, f := range [][]int64{{1}, {0, 1}, longest(p)} {
					if r := c.call(p, f, nil, k); r.code != impl.ErrNone {
						t.Errorf("%s for %d and %d: code %d", c.name, p, k, r.code)
					}
				}
			}
		}
	}
}

func TestRootsOf0(t *testing.T) {
	for _, c := range rootCalls {
		for _, p := range somePrimes {
			for _, empty := range [][]int64{nil, {}} {
				name := fmt.Sprintf("%s of 0 for %d", c.name, p)
				if c.zero {
					lists(t, name, c.call(p, empty, nil, 1), nil)
					continue
				}
				fails(t, name, c.call(p, empty, empty, 1), impl.ErrState)
				fails(t, name+" in the first place", c.call(p, empty, longest(p), 0), impl.ErrState)
				if c.count == 2 {
					fails(t, name+" in the second place", c.call(p, longest(p), empty, 0), impl.ErrState)
					fails(t, name+" and a constant", c.call(p, []int64{1}, empty, 0), impl.ErrState)
				}
			}
		}
	}
}

func TestStatesOfRoots(t *testing.T) {
	for _, p := range somePrimes {
		for _, x := range []int64{1, p - 1} {
			fails(t, "DiscriminantOf a constant", numResult(impl.DiscriminantOf(p, []int64{x})), impl.ErrState)
			num(t, "DiscriminantOf the degree 1", numResult(impl.DiscriminantOf(p, []int64{0, x})), 1)
			for n := 1; n <= impl.MaxDegree; n++ {
				f := ofDegree(n)
				f[n] = x
				fails(t, "ReversePolynomial of 0 at x^0", listResult(impl.ReversePolynomial(p, f)), impl.ErrState)
			}
		}
	}
	fails(t, "ReversePolynomial of 0 at x^0", listResult(impl.ReversePolynomial(7, []int64{0, 1, 2})), impl.ErrState)
}

func TestListsOfRootsOutOfRange(t *testing.T) {
	for _, p := range somePrimes {
		for n := range 60 {
			for _, roots := range [][]int64{make([]int64, n), slices.Repeat([]int64{p - 1}, n)} {
				r := listResult(impl.PolynomialOfRoots(p, roots))
				if n > impl.MaxDegree {
					fails(t, fmt.Sprintf("PolynomialOfRoots of %d", n), r, impl.ErrRange)
				} else {
					lists(t, fmt.Sprintf("PolynomialOfRoots of %d", n), r, productOfRoots(p, 1, roots))
				}
			}
			for k := range min(n, impl.MaxDegree) {
				for _, x := range append([]int64{p, p + 1, math.MinInt32}, extremes...) {
					roots := make([]int64, n)
					roots[k] = x
					fails(t, fmt.Sprintf("PolynomialOfRoots with %d", x), listResult(impl.PolynomialOfRoots(p, roots)), impl.ErrRange)
				}
			}
		}
		fails(t, "PolynomialOfRoots of too many", listResult(impl.PolynomialOfRoots(p, make([]int64, 100000))), impl.ErrRange)
	}
}

// TestAnyRoots calls all functions with all arguments of a grid: none panics, and beside an error
// nothing is returned.
func TestAnyRoots(t *testing.T) {
	numbers := slices.Concat([]int64{0, 1, 2, 6, 7, 24, 25, 10006, 10007, 91}, extremes)
	someLists := append(badPolys(7), nil, []int64{}, []int64{1}, []int64{0, 1}, []int64{6, 0, 1}, longest(2), longest(7), ofDegree(24))
	for _, p := range append([]int64{2, 3, 7, 10007}, noPrimes...) {
		for _, f := range someLists {
			sound(t, "PolynomialOfRoots", listResult(impl.PolynomialOfRoots(p, f)))
			for _, c := range rootCalls {
				if c.count == 2 {
					for _, g := range someLists {
						sound(t, c.name, c.call(p, f, g, 0))
					}
				} else if c.last == nil {
					sound(t, c.name, c.call(p, f, nil, 0))
				} else {
					for _, k := range numbers {
						sound(t, c.name, c.call(p, f, nil, k))
					}
				}
			}
		}
	}
}
