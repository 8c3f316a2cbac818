package tests

import (
	"fmt"
	"slices"
	"testing"

	"loop.example/g01283/impl"
)

// checkApproximant checks by its definition what PadeOf returned: there is one at most, as that of
// another one, crosswise, would be the same product.
func checkApproximant(t *testing.T, name string, r result, p int64, series []int64, a, b int) {
	t.Helper()
	if !hasApproximant(p, series, a, b) {
		fails(t, name, r, impl.ErrNotFound)
		return
	}
	numerator, denominator := r.lists[0], r.lists[1]
	if r.code != impl.ErrNone || !impl.IsPoly(p, numerator) || !impl.IsPoly(p, denominator) {
		t.Errorf("%s = %v, code %d", name, r.lists, r.code)
		return
	}
	if len(numerator) > a+1 || len(denominator) > b+1 || len(denominator) == 0 || denominator[0] != 1 {
		t.Errorf("%s = %v", name, r.lists)
		return
	}
	if product := beginning(slowProduct(p, denominator, series), a+b+1); !slices.Equal(product, beginning(numerator, a+b+1)) {
		t.Errorf("%s = %v, but the denominator times the series is %v", name, r.lists, product)
	}
	if common, _ := impl.GcdPolys(p, numerator, denominator); len(common) != 1 {
		t.Errorf("%s = %v with the common divisor %v", name, r.lists, common)
	}
}

func TestPadeOf(t *testing.T) {
	d := &dice{131}
	for _, p := range somePrimes {
		for a := range impl.MaxSeries {
			for b := range impl.MaxSeries - a {
				n := a + b + 1
				some := [][]int64{d.list(p, n), make([]int64, n), beginning([]int64{p - 1}, n), slices.Repeat([]int64{1}, n)}
				// Zeros at the beginning, at the end, and in between are what leads to no approximant.
				k := int(d.below(int64(n)))
				some = append(some, append(make([]int64, k), d.list(p, n-k)...), beginning(d.list(p, k), n))
				some = append(some, append(append(d.list(p, k/2), make([]int64, k-k/2)...), d.list(p, n-k)...))
				for _, series := range some {
					name := fmt.Sprintf("PadeOf %d, %v, %d and %d", p, series, a, b)
					checkApproximant(t, name, pairResult(impl.PadeOf(p, series, int64(a), int64(b))), p, series, a, b)
				}
			}
		}
	}
	pair := func(name string, p int64, series []int64, a, b int64, want ...[]int64) {
		lists(t, name, pairResult(impl.PadeOf(p, series, a, b)), want...)
	}
	pair("PadeOf", 5, []int64{1, 1}, 0, 1, []int64{1}, []int64{1, 4})
	pair("PadeOf", 7, []int64{1, 1, 2, 5, 0}, 2, 2, []int64{1, 4, 1}, []int64{1, 3, 3})
	pair("PadeOf a polynomial", 7, []int64{1, 2, 0, 3}, 3, 0, []int64{1, 2, 0, 3}, []int64{1})
	pair("PadeOf a polynomial with 0 at its end", 7, []int64{1, 2, 0, 0}, 3, 0, []int64{1, 2}, []int64{1})
	pair("PadeOf a polynomial of a lesser degree", 7, []int64{0, 2, 0, 0, 0, 0}, 2, 3, []int64{0, 2}, []int64{1})
	pair("PadeOf an inverse", 7, []int64{3, 6, 5, 3}, 0, 3, []int64{3}, []int64{1, 5})
	pair("PadeOf zeros", 7, []int64{0, 0, 0, 0}, 1, 2, nil, []int64{1})
	pair("PadeOf one number", 7, []int64{4}, 0, 0, []int64{4}, []int64{1})
	pair("PadeOf 0", 7, []int64{0}, 0, 0, nil, []int64{1})
	fails(t, "PadeOf x", pairResult(impl.PadeOf(5, []int64{0, 1}, 0, 1)), impl.ErrNotFound)
	fails(t, "PadeOf 1 + x x", pairResult(impl.PadeOf(5, []int64{1, 0, 1}, 1, 1)), impl.ErrNotFound)
}

// TestAllPade tries all polynomials with 1 at x^0 as denominators.
func TestAllPade(t *testing.T) {
	for _, c := range []struct {
		p int64
		n int
	}{{2, 1}, {2, 2}, {2, 3}, {2, 4}, {2, 5}, {2, 7}, {3, 2}, {3, 3}, {3, 4}, {3, 5}, {5, 3}} {
		polys := allPolys(c.p, c.n)
		for _, series := range allLists(c.p, c.n) {
			for a := range c.n {
				checkAllPairs(t, c.p, series, a, c.n-1-a, polys)
			}
		}
	}
}

// checkAllPairs checks that the only pair that is an approximant is what PadeOf returns.
func checkAllPairs(t *testing.T, p int64, series []int64, a, b int, polys [][]int64) {
	t.Helper()
	name := fmt.Sprintf("PadeOf %d, %v, %d and %d", p, series, a, b)
	var found [][]int64
	for _, denominator := range polys {
		if len(denominator) == 0 || len(denominator) > b+1 || denominator[0] != 1 {
			continue
		}
		numerator := cut(beginning(slowProduct(p, denominator, series), a+b+1))
		if common, _ := impl.GcdPolys(p, numerator, denominator); len(numerator) <= a+1 && len(common) == 1 {
			found = append(found, numerator, denominator)
		}
	}
	r := pairResult(impl.PadeOf(p, series, int64(a), int64(b)))
	if len(found) == 0 {
		fails(t, name, r, impl.ErrNotFound)
	} else {
		lists(t, name, r, found...)
	}
	if hasApproximant(p, series, a, b) != (len(found) > 0) {
		t.Errorf("%s: the ranks are wrong", name)
	}
}

// TestApproximantsOfQuotients checks that the series of two polynomials leads back to them.
func TestApproximantsOfQuotients(t *testing.T) {
	d := &dice{132}
	for _, p := range somePrimes {
		for a := range impl.MaxSeries {
			for b := range impl.MaxSeries - a {
				f, g := d.poly(p, int(d.below(int64(a)+2))), d.invertible(p, 1+int(d.below(int64(b)+1)))
				g = slowSum(p, nil, g, slowInverse(p, g[0]))
				common, _ := impl.GcdPolys(p, f, g)
				f, _, _ = impl.DividePolys(p, f, common)
				g, _, _ = impl.DividePolys(p, g, common)
				factor := slowInverse(p, g[0])
				f, g = slowSum(p, nil, f, factor), slowSum(p, nil, g, factor)
				series, _ := impl.SeriesOf(p, f, g, int64(a+b+1))
				name := fmt.Sprintf("PadeOf the series of %v and %v", f, g)
				r := pairResult(impl.PadeOf(p, series, int64(a), int64(b)))
				lists(t, name, r, f, g)
				lists(t, "SeriesOf "+name, listResult(impl.SeriesOf(p, r.lists[0], r.lists[1], int64(a+b+1))), series)
			}
		}
	}
}

// TestApproximantsOfData checks that the approximants of moments are the polynomials of their data.
func TestApproximantsOfData(t *testing.T) {
	d := &dice{133}
	for _, p := range somePrimes {
		for _, j := range someData(d, p) {
			r := len(j.Alpha)
			m, _ := impl.MomentsOfJacobi(j, int64(2*r))
			f := reversed(slowSum(p, nil, slowAssociated(j, r), j.Beta[0]))
			lists(t, "PadeOf moments", pairResult(impl.PadeOf(p, m.List, int64(r)-1, int64(r))), cut(f), cut(reversed(slowPoly(j, r))))
		}
	}
}
