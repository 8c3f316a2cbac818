package tests

import (
	"fmt"
	"math"
	"slices"
	"testing"

	"loop.example/g01283/impl"
)

// TestDataAreFound checks that data are found from their last two polynomials.
func TestDataAreFound(t *testing.T) {
	d := &dice{54}
	for _, p := range somePrimes {
		for _, j := range someData(d, p) {
			n := int64(len(j.Alpha))
			f, _ := impl.PolyOf(j, n)
			g, _ := impl.PolyOf(j, n-1)
			isData(t, "FindJacobi", jacobiResult(impl.FindJacobi(p, f, g, j.Beta[0])), j)
			isData(t, "FindJacobi for P(n) and P(n - 1)", jacobiResult(impl.FindJacobi(p, slowPoly(j, int(n)), slowPoly(j, int(n)-1), j.Beta[0])), j)
		}
	}
	want := data(7, []int64{1, 2, 0}, []int64{4, 3, 5})
	isData(t, "FindJacobi", jacobiResult(impl.FindJacobi(7, []int64{5, 1, 4, 1}, []int64{6, 4, 1}, 4)), want)
	isData(t, "FindJacobi of one number", jacobiResult(impl.FindJacobi(7, []int64{4, 1}, []int64{1}, 6)), data(7, []int64{3}, []int64{6}))
	isData(t, "FindJacobi of x", jacobiResult(impl.FindJacobi(2, []int64{0, 1}, []int64{1}, 1)), data(2, []int64{0}, []int64{1}))
}

// TestAllPairs finds data from all monic polynomials: those of some data, and no others.
func TestAllPairs(t *testing.T) {
	for _, c := range []struct {
		p int64
		n int
	}{{2, 1}, {2, 2}, {2, 3}, {2, 4}, {3, 1}, {3, 2}, {3, 3}, {5, 2}} {
		known := map[string]impl.Jacobi{}
		for _, j := range allData(c.p, c.n, c.p-1) {
			known[fmt.Sprint(slowPoly(j, c.n), slowPoly(j, c.n-1))] = j
		}
		for _, f := range allPolys(c.p, c.n+1) {
			for _, g := range allPolys(c.p, c.n) {
				if len(f) != c.n+1 || len(g) != c.n || f[c.n] != 1 || g[c.n-1] != 1 {
					continue
				}
				name := fmt.Sprintf("FindJacobi for %d from %v and %v", c.p, f, g)
				r := jacobiResult(impl.FindJacobi(c.p, f, g, c.p-1))
				if j, ok := known[fmt.Sprint(f, g)]; ok {
					isData(t, name, r, j)
				} else {
					fails(t, name, r, impl.ErrState)
				}
			}
		}
	}
}

func TestDataThatAreNot(t *testing.T) {
	for _, c := range []struct {
		name string
		f, g []int64
	}{
		{"nothing left too early", []int64{0, 0, 1}, []int64{0, 1}},
		{"a divisor", []int64{6, 0, 1}, []int64{1, 1}},
		{"a degree less by 2", []int64{1, 0, 0, 1}, []int64{0, 0, 1}},
		{"nothing left at last", []int64{0, 1, 0, 1}, []int64{0, 0, 1}},
		{"nothing left of 12", ofDegree(12), ofDegree(11)},
		{"only 1 left of 12", slices.Concat([]int64{1}, ofDegree(11)), ofDegree(11)},
	} {
		for b := int64(1); b < 7; b++ {
			fails(t, "FindJacobi with "+c.name, jacobiResult(impl.FindJacobi(7, c.f, c.g, b)), impl.ErrState)
		}
	}
}

func TestFindJacobiOfNoPolynomials(t *testing.T) {
	good := []int64{0, 1}
	for _, p := range append([]int64{2, 7, 10007}, noPrimes...) {
		for _, bad := range badPolys(p) {
			if impl.IsPoly(p, bad) {
				continue
			}
			// No prime, a degree or a number out of range, and what is not monic come later.
			for _, b := range append([]int64{0, 1, p}, extremes...) {
				name := fmt.Sprintf("FindJacobi for %d with no polynomial", p)
				fails(t, name, jacobiResult(impl.FindJacobi(p, bad, nil, b)), impl.ErrInvalid)
				fails(t, name, jacobiResult(impl.FindJacobi(p, nil, bad, b)), impl.ErrInvalid)
				fails(t, name, jacobiResult(impl.FindJacobi(p, bad, bad, b)), impl.ErrInvalid)
				fails(t, name, jacobiResult(impl.FindJacobi(p, good, bad, b)), impl.ErrInvalid)
				fails(t, name, jacobiResult(impl.FindJacobi(p, bad, []int64{1}, b)), impl.ErrInvalid)
			}
		}
	}
}

func TestFindJacobiErrors(t *testing.T) {
	for _, p := range noPrimes {
		for _, c := range [][2][]int64{{nil, nil}, {{0, 1}, {1}}, {{0, 0, 1}, {0, 1}}, {{1}, {1}}} {
			if impl.IsPoly(p, c[0]) && impl.IsPoly(p, c[1]) {
				fails(t, "FindJacobi for no prime", jacobiResult(impl.FindJacobi(p, c[0], c[1], 1)), impl.ErrRange)
			}
		}
	}
	for n := range impl.MaxDegree + 1 {
		for m := range impl.MaxDegree + 1 {
			r := jacobiResult(impl.FindJacobi(7, ofDegree(n), ofDegree(m), 1))
			switch {
			case n < 1 || n > 12 || m != n-1:
				fails(t, fmt.Sprintf("FindJacobi from the degrees %d and %d", n, m), r, impl.ErrRange)
			case n == 1:
				isData(t, "FindJacobi from x and 1", r, data(7, []int64{0}, []int64{1}))
			default:
				fails(t, fmt.Sprintf("FindJacobi from the degrees %d and %d", n, m), r, impl.ErrState)
			}
		}
		fails(t, "FindJacobi from 0", jacobiResult(impl.FindJacobi(7, nil, ofDegree(n), 1)), impl.ErrRange)
		fails(t, "FindJacobi from 0 as the second one", jacobiResult(impl.FindJacobi(7, ofDegree(n), nil, 1)), impl.ErrRange)
	}
	fails(t, "FindJacobi from 0 twice", jacobiResult(impl.FindJacobi(7, nil, nil, 1)), impl.ErrRange)
	j := (&dice{55}).data(7, 12)
	f, g := slowPoly(j, 12), slowPoly(j, 11)
	isData(t, "FindJacobi of 12 numbers", jacobiResult(impl.FindJacobi(7, f, g, j.Beta[0])), j)
	for k := int64(2); k < 7; k++ {
		multiple, other := slowSum(7, nil, f, k), slowSum(7, nil, g, k)
		fails(t, "FindJacobi of what is not monic", jacobiResult(impl.FindJacobi(7, multiple, g, 1)), impl.ErrRange)
		fails(t, "FindJacobi of what is not monic", jacobiResult(impl.FindJacobi(7, f, other, 1)), impl.ErrRange)
		fails(t, "FindJacobi of what is not monic", jacobiResult(impl.FindJacobi(7, multiple, other, 1)), impl.ErrRange)
		fails(t, "FindJacobi of x and no 1", jacobiResult(impl.FindJacobi(7, []int64{0, 1}, []int64{k}, 1)), impl.ErrRange)
		fails(t, "FindJacobi of no x and 1", jacobiResult(impl.FindJacobi(7, []int64{0, k}, []int64{1}, 1)), impl.ErrRange)
	}
	for _, b := range append([]int64{0, 7, 8, math.MinInt32}, extremes...) {
		fails(t, "FindJacobi with a wrong number", jacobiResult(impl.FindJacobi(7, f, g, b)), impl.ErrRange)
		// That a degree is not as told comes later.
		fails(t, "FindJacobi with a wrong number", jacobiResult(impl.FindJacobi(7, ofDegree(2), ofDegree(1), b)), impl.ErrRange)
	}
	isData(t, "FindJacobi with the greatest number", jacobiResult(impl.FindJacobi(7, []int64{0, 1}, []int64{1}, 6)), data(7, []int64{0}, []int64{6}))
}
