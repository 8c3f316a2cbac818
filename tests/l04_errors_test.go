package tests

import (
	"fmt"
	"math"
	"slices"
	"testing"

	"loop.example/g01283/impl"
)

// orthogonalCall is a function of chapter 4 that takes moments, perhaps a polynomial or a list, and
// up to three numbers; its ranges are the limits of these numbers for the prime p.
type orthogonalCall struct {
	name   string
	poly   bool
	ranges func(p int64) [][2]int64
	call   func(m impl.Moments, f []int64, a, b, c int64) result
}

func noRanges(p int64) [][2]int64 { return nil }

var orthogonalCalls = []orthogonalCall{
	{"JacobiOfMoments", false, func(p int64) [][2]int64 { return [][2]int64{{1, 12}} }, func(m impl.Moments, f []int64, a, b, c int64) result {
		return jacobiResult(impl.JacobiOfMoments(m, a))
	}},
	{"OrthogonalPolynomial", false, func(p int64) [][2]int64 { return [][2]int64{{0, 12}} }, func(m impl.Moments, f []int64, a, b, c int64) result {
		return listResult(impl.OrthogonalPolynomial(m, a))
	}},
	{"NormOf", false, func(p int64) [][2]int64 { return [][2]int64{{0, 12}} }, func(m impl.Moments, f []int64, a, b, c int64) result {
		return numResult(impl.NormOf(m, a))
	}},
	{"NormsOf", false, noRanges, func(m impl.Moments, f []int64, a, b, c int64) result { return listResult(impl.NormsOf(m)) }},
	{"IsOrthogonal", true, func(p int64) [][2]int64 { return [][2]int64{{0, 12}} }, func(m impl.Moments, f []int64, a, b, c int64) result {
		return boolResult(impl.IsOrthogonal(m, f, a))
	}},
	{"ExpandPolynomial", true, noRanges, func(m impl.Moments, f []int64, a, b, c int64) result {
		return listResult(impl.ExpandPolynomial(m, f))
	}},
	{"SumOfExpansion", false, noRanges, func(m impl.Moments, f []int64, a, b, c int64) result {
		return listResult(impl.SumOfExpansion(m, f))
	}},
	{"KernelOf", false, func(p int64) [][2]int64 { return [][2]int64{{0, 11}, {0, p - 1}} }, func(m impl.Moments, f []int64, a, b, c int64) result {
		return listResult(impl.KernelOf(m, a, b))
	}},
	{"KernelAt", false, func(p int64) [][2]int64 { return [][2]int64{{0, 11}, {0, p - 1}, {0, p - 1}} }, func(m impl.Moments, f []int64, a, b, c int64) result {
		return numResult(impl.KernelAt(m, a, b, c))
	}},
	{"ReproduceAt", true, func(p int64) [][2]int64 { return [][2]int64{{0, 11}, {0, p - 1}} }, func(m impl.Moments, f []int64, a, b, c int64) result {
		return numResult(impl.ReproduceAt(m, a, f, b))
	}},
}

func TestNoMomentsAreOrthogonal(t *testing.T) {
	for _, c := range orthogonalCalls {
		for _, bad := range badMoments() {
			name := fmt.Sprintf("%s of no moments, of the prime %d", c.name, bad.Prime)
			// Numbers and lists out of their ranges, and too small an order, come later.
			for _, a := range append([]int64{0, 1, 7, 13}, extremes...) {
				for _, f := range [][]int64{nil, {1}, longest(7), {0}, {9}, make([]int64, 13)} {
					fails(t, name, c.call(bad, f, a, a, a), impl.ErrInvalid)
					fails(t, name, c.call(bad, f, 1, 0, a), impl.ErrInvalid)
				}
			}
		}
	}
}

func TestNoPolynomialsAreOrthogonal(t *testing.T) {
	for _, c := range orthogonalCalls {
		for _, p := range []int64{2, 7, 10007} {
			for _, bad := range badPolys(p) {
				for _, m := range []impl.Moments{of(p, 0), (&dice{91}).regular(p, 24)} {
					for _, a := range append([]int64{0, 1, 13, p}, extremes...) {
						if c.poly {
							fails(t, fmt.Sprintf("%s of no polynomial for %d", c.name, p), c.call(m, bad, a, a, a), impl.ErrInvalid)
							fails(t, fmt.Sprintf("%s of no polynomial for %d", c.name, p), c.call(m, bad, 1, 0, 0), impl.ErrInvalid)
						}
					}
				}
			}
		}
	}
}

func TestOrthogonalNumbersOutOfRange(t *testing.T) {
	for _, c := range orthogonalCalls {
		for _, p := range somePrimes {
			for i, limits := range c.ranges(p) {
				checkOrthogonalLimits(t, c, p, i, limits)
			}
		}
	}
}

// checkOrthogonalLimits replaces one of good numbers by its limits, and by what is beyond them. All
// that is in its range is told by 24 regular moments, but the norm of P(12).
func checkOrthogonalLimits(t *testing.T, c orthogonalCall, p int64, i int, limits [2]int64) {
	t.Helper()
	regular := (&dice{92}).regular(p, 24)
	with := func(m impl.Moments, x int64) result {
		numbers := []int64{1, 0, 0}
		numbers[i] = x
		return c.call(m, []int64{1}, numbers[0], numbers[1], numbers[2])
	}
	for _, x := range limits {
		if r := with(regular, x); r.code != impl.ErrNone && (c.name != "NormOf" || x != 12) {
			t.Errorf("%s with the number %d in %v: code %d", c.name, x, limits, r.code)
		}
	}
	for _, x := range append([]int64{limits[0] - 1, limits[1] + 1, limits[1] + 2, math.MinInt32}, extremes...) {
		name := fmt.Sprintf("%s with the number %d not in %v", c.name, x, limits)
		fails(t, name, with(regular, x), impl.ErrRange)
		// Too small an order comes later.
		fails(t, name, with(of(p, 0), x), impl.ErrRange)
		fails(t, name, with(of(p, make([]int64, 24)...), x), impl.ErrRange)
	}
}

// TestLastOrthogonal checks the greatest numbers, with as many moments as they need and with one
// fewer.
func TestLastOrthogonal(t *testing.T) {
	for _, p := range somePrimes {
		all := (&dice{93}).regular(p, 24)
		fewer, twoFewer := of(p, all.List[:23]...), of(p, all.List[:22]...)
		good := func(name string, r result) {
			t.Helper()
			if r.code != impl.ErrNone {
				t.Errorf("%s: code %d", name, r.code)
			}
		}
		good("JacobiOfMoments of 12", jacobiResult(impl.JacobiOfMoments(all, 12)))
		fails(t, "JacobiOfMoments of 12", jacobiResult(impl.JacobiOfMoments(fewer, 12)), impl.ErrState)
		good("OrthogonalPolynomial of 12", listResult(impl.OrthogonalPolynomial(all, 12)))
		fails(t, "OrthogonalPolynomial of 12", listResult(impl.OrthogonalPolynomial(fewer, 12)), impl.ErrState)
		good("NormOf 11", numResult(impl.NormOf(fewer, 11)))
		fails(t, "NormOf 11", numResult(impl.NormOf(twoFewer, 11)), impl.ErrState)
		fails(t, "NormOf 12", numResult(impl.NormOf(all, 12)), impl.ErrState)
		good("ExpandPolynomial of the degree 11", listResult(impl.ExpandPolynomial(twoFewer, ofDegree(11))))
		fails(t, "ExpandPolynomial of the degree 11", listResult(impl.ExpandPolynomial(of(p, all.List[:21]...), ofDegree(11))), impl.ErrState)
		good("SumOfExpansion of 12", listResult(impl.SumOfExpansion(twoFewer, make([]int64, 12))))
		fails(t, "SumOfExpansion of 12", listResult(impl.SumOfExpansion(of(p, all.List[:21]...), make([]int64, 12))), impl.ErrState)
		good("KernelOf 11", listResult(impl.KernelOf(fewer, 11, p-1)))
		fails(t, "KernelOf 11", listResult(impl.KernelOf(twoFewer, 11, p-1)), impl.ErrState)
		good("KernelAt 11", numResult(impl.KernelAt(fewer, 11, p-1, p-1)))
		fails(t, "KernelAt 11", numResult(impl.KernelAt(twoFewer, 11, p-1, p-1)), impl.ErrState)
		good("ReproduceAt 11", numResult(impl.ReproduceAt(fewer, 11, ofDegree(11), p-1)))
		fails(t, "ReproduceAt 11", numResult(impl.ReproduceAt(twoFewer, 11, ofDegree(11), p-1)), impl.ErrState)
		good("IsOrthogonal to 12", boolResult(impl.IsOrthogonal(all, ofDegree(12), 12)))
		fails(t, "IsOrthogonal to 12", boolResult(impl.IsOrthogonal(all, ofDegree(13), 12)), impl.ErrState)
		fails(t, "IsOrthogonal to 12", boolResult(impl.IsOrthogonal(fewer, ofDegree(12), 12)), impl.ErrState)
		good("MomentsOfJacobi of 24", momentsResult(impl.MomentsOfJacobi((&dice{94}).data(p, 12), 24)))
	}
}

func TestOrthogonalListsOutOfRange(t *testing.T) {
	for _, p := range somePrimes {
		for _, m := range []impl.Moments{(&dice{95}).regular(p, 24), of(p, 0), of(p, 1)} {
			for n := 12; n <= impl.MaxDegree; n++ {
				fails(t, "ExpandPolynomial of too great a degree", listResult(impl.ExpandPolynomial(m, ofDegree(n))), impl.ErrRange)
				fails(t, "ReproduceAt of too great a degree", numResult(impl.ReproduceAt(m, 11, ofDegree(n), 0)), impl.ErrRange)
				fails(t, "SumOfExpansion of too many", listResult(impl.SumOfExpansion(m, make([]int64, n+1))), impl.ErrRange)
			}
			for n := range int64(12) {
				fails(t, "ReproduceAt of too great a degree", numResult(impl.ReproduceAt(m, n, ofDegree(int(n)+1), 0)), impl.ErrRange)
			}
			fails(t, "SumOfExpansion of too many", listResult(impl.SumOfExpansion(m, make([]int64, 100000))), impl.ErrRange)
			for _, x := range append([]int64{p, p + 1, math.MinInt32}, extremes...) {
				for _, list := range [][]int64{{x}, {x, 0}, {0, x}, append(make([]int64, 11), x), append(make([]int64, 12), x)} {
					fails(t, "SumOfExpansion of numbers out of range", listResult(impl.SumOfExpansion(m, list)), impl.ErrRange)
				}
			}
		}
	}
}

// TestAnyOrthogonal calls all functions with all arguments of a grid: none panics, and beside an
// error nothing is returned.
func TestAnyOrthogonal(t *testing.T) {
	d := &dice{96}
	numbers := slices.Concat([]int64{0, 1, 2, 11, 12, 13, 24, 25, 10006, 10007, 91}, extremes)
	someLists := append(badPolys(7), nil, []int64{1}, []int64{0, 1}, longest(2), longest(7), ofDegree(11), ofDegree(12), ofDegree(24))
	all := append(badMoments(), of(7, 0), of(7, 1, 2), of(2, longest(2)...), of(7, make([]int64, 24)...), d.regular(2, 24), d.regular(7, 23), d.regular(10007, 24))
	for _, m := range all {
		for _, c := range orthogonalCalls {
			for _, f := range someLists {
				for _, a := range numbers {
					sound(t, c.name, c.call(m, f, a, 1, 0))
					sound(t, c.name, c.call(m, f, 1, a, a))
					sound(t, c.name, c.call(m, f, 2, 1, a))
				}
			}
		}
	}
}
