package tests

import (
	"fmt"
	"slices"
	"testing"

	"loop.example/g01283/impl"
)

// areConvergents checks that a call returned these numerators and denominators, and ErrNone.
func areConvergents(t *testing.T, name string, r result, a, b [][]int64) {
	t.Helper()
	if !r.equals(convergentsResult(a, b, impl.ErrNone)) {
		t.Errorf("%s = %v, code %d, want %v and %v", name, r.lists, r.code, a, b)
	}
}

// slowConvergents returns the convergents one by one, each from its last quotient on.
func slowConvergents(p int64, quotients [][]int64) ([][]int64, [][]int64) {
	var a, b [][]int64
	for k := range quotients {
		a = append(a, continuant(p, quotients[:k+1]))
		b = append(b, continuant(p, quotients[1:k+1]))
	}
	return a, b
}

// tooGreat reports whether the degree of one of the polynomials is greater than MaxDegree.
func tooGreat(polys ...[]int64) bool {
	return slices.ContainsFunc(polys, func(f []int64) bool { return len(f) > impl.MaxDegree+1 })
}

func TestQuotientsOf(t *testing.T) {
	for _, c := range []struct {
		p int64
		n int
	}{{2, 5}, {3, 3}} {
		all := allPolys(c.p, c.n)
		for _, f := range all {
			for _, g := range all[1:] {
				checkQuotients(t, c.p, f, g)
			}
		}
	}
	d := &dice{111}
	for _, p := range somePrimes {
		for n := range 26 {
			checkQuotients(t, p, d.poly(p, n), d.poly(p, 1+int(d.below(25))))
			checkQuotients(t, p, d.poly(p, int(d.below(26))), d.poly(p, max(n, 1)))
			checkQuotients(t, p, ofDegree(max(n-1, 0)), d.poly(p, max(n-1, 1)))
			common := d.poly(p, 1+n/3)
			checkQuotients(t, p, slowProduct(p, d.poly(p, 4), common), slowProduct(p, d.poly(p, 6), common))
		}
	}
	lists(t, "QuotientsOf", rowsResult(impl.QuotientsOf(5, []int64{1, 0, 1}, []int64{1, 1})), []int64{4, 1}, []int64{3, 3})
	lists(t, "QuotientsOf 0", rowsResult(impl.QuotientsOf(5, nil, []int64{1, 1})), nil)
	lists(t, "QuotientsOf a multiple", rowsResult(impl.QuotientsOf(5, []int64{2, 2}, []int64{1, 1})), []int64{2})
	lists(t, "QuotientsOf a lesser degree", rowsResult(impl.QuotientsOf(5, []int64{2}, []int64{0, 1})), nil, []int64{0, 3})
}

// checkQuotients checks also that the last convergent is the quotient of f and g.
func checkQuotients(t *testing.T, p int64, f, g []int64) {
	t.Helper()
	name := fmt.Sprintf("QuotientsOf %d, %v and %v", p, f, g)
	quotients, code := impl.QuotientsOf(p, f, g)
	lists(t, name, rowsResult(quotients, code), slowQuotients(p, f, g)...)
	for k, q := range quotients {
		if !impl.IsPoly(p, q) || k > 0 && len(q) < 2 {
			t.Errorf("%s = %v", name, quotients)
		}
	}
	if len(quotients) > impl.MaxSeries {
		return
	}
	a, b, code := impl.ConvergentsOf(p, quotients)
	if code != impl.ErrNone || len(a) != len(quotients) || len(b) != len(quotients) {
		t.Errorf("ConvergentsOf %s = %v, %v, code %d", name, a, b, code)
		return
	}
	last := len(quotients) - 1
	lists(t, "the last convergent of "+name, listResult(slowProduct(p, a[last], g), 0), slowProduct(p, b[last], f))
}

// TestMostQuotients checks that there may be one quotient more than ConvergentsOf takes.
func TestMostQuotients(t *testing.T) {
	for _, p := range somePrimes {
		x := slices.Repeat([][]int64{{0, 1}}, 24)
		f, g := continuant(p, x), continuant(p, x[1:])
		lists(t, "QuotientsOf of the degrees 24 and 23", rowsResult(impl.QuotientsOf(p, f, g)), x...)
		all := append([][]int64{{p - 1}}, x...)
		lists(t, "QuotientsOf of the degrees 24 and 24", rowsResult(impl.QuotientsOf(p, slowSum(p, g, f, -1), f)), all...)
		fails(t, "ConvergentsOf 25", convergentsResult(impl.ConvergentsOf(p, all)), impl.ErrRange)
		all[0] = nil
		lists(t, "QuotientsOf of the degrees 23 and 24", rowsResult(impl.QuotientsOf(p, g, f)), all...)
		fails(t, "ConvergentsOf 25", convergentsResult(impl.ConvergentsOf(p, all)), impl.ErrRange)
	}
}

func TestConvergentsOf(t *testing.T) {
	d := &dice{112}
	limits := 0
	for _, p := range somePrimes {
		for count := range impl.MaxSeries + 1 {
			for most := int64(1); most < 6; most++ {
				quotients := make([][]int64, count)
				for k := range quotients {
					quotients[k] = d.poly(p, int(d.below(most)))
				}
				name := fmt.Sprintf("ConvergentsOf %d, %v", p, quotients)
				r := convergentsResult(impl.ConvergentsOf(p, quotients))
				a, b := slowConvergents(p, quotients)
				if tooGreat(slices.Concat(a, b)...) {
					fails(t, name, r, impl.ErrLimit)
					limits++
				} else {
					areConvergents(t, name, r, a, b)
				}
			}
		}
	}
	if limits == 0 {
		t.Errorf("no degree was too great")
	}
	r := convergentsResult(impl.ConvergentsOf(5, [][]int64{{4, 1}, {3, 3}}))
	areConvergents(t, "ConvergentsOf", r, [][]int64{{4, 1}, {3, 0, 3}}, [][]int64{{1}, {3, 3}})
	areConvergents(t, "ConvergentsOf nothing", convergentsResult(impl.ConvergentsOf(5, nil)), nil, nil)
	areConvergents(t, "ConvergentsOf 0", convergentsResult(impl.ConvergentsOf(5, [][]int64{{}})), [][]int64{{}}, [][]int64{{1}})
	r = convergentsResult(impl.ConvergentsOf(5, [][]int64{{2}, {}, {3}}))
	areConvergents(t, "ConvergentsOf constants", r, [][]int64{{2}, {1}, {}}, [][]int64{{1}, {}, {1}})
}

func TestConvergentsOfTheGreatestDegree(t *testing.T) {
	for _, p := range []int64{2, 7, 10007} {
		x := []int64{0, 1}
		for _, c := range []struct {
			name string
			good bool
			list [][]int64
		}{
			{"x 24 times", true, slices.Repeat([][]int64{x}, 24)},
			{"x 23 times behind x x", false, append([][]int64{ofDegree(2)}, slices.Repeat([][]int64{x}, 23)...)},
			{"x 23 times behind 0", true, append([][]int64{nil}, slices.Repeat([][]int64{x}, 23)...)},
			{"the degree 24", true, [][]int64{longest(p)}},
			{"the degree 24, and 1", true, [][]int64{longest(p), {1}}},
			{"the degrees 23 and 1", true, [][]int64{ofDegree(23), x}},
			{"too great a numerator", false, [][]int64{ofDegree(24), x}},
			{"too great a numerator of twice the degree", false, [][]int64{longest(p), longest(p)}},
			{"the denominator of the degree 24", true, [][]int64{nil, ofDegree(24)}},
			{"too great a denominator", false, [][]int64{nil, ofDegree(24), x}},
			{"too great a numerator before the last one", false, [][]int64{ofDegree(24), x, nil}},
			{"0 between two of the degree 24", true, [][]int64{ofDegree(24), nil, longest(p)}},
			{"a last numerator that is less than the one before it", true, [][]int64{ofDegree(12), ofDegree(12), nil}},
		} {
			a, b := slowConvergents(p, c.list)
			r := convergentsResult(impl.ConvergentsOf(p, c.list))
			if tooGreat(slices.Concat(a, b)...) == c.good {
				t.Errorf("%s is no good example", c.name)
			}
			if c.good {
				areConvergents(t, "ConvergentsOf "+c.name, r, a, b)
			} else {
				fails(t, "ConvergentsOf "+c.name, r, impl.ErrLimit)
			}
		}
	}
}

// TestConvergentsLeadBack checks that the quotients of the last convergent are those that it is
// made of, if all but the first one have a degree of at least 1.
func TestConvergentsLeadBack(t *testing.T) {
	d := &dice{113}
	for _, p := range somePrimes {
		for count := 1; count < 9; count++ {
			quotients := [][]int64{d.poly(p, int(d.below(4)))}
			for len(quotients) < count {
				quotients = append(quotients, d.poly(p, 2+int(d.below(2))))
			}
			a, b, _ := impl.ConvergentsOf(p, quotients)
			lists(t, "QuotientsOf ConvergentsOf", rowsResult(impl.QuotientsOf(p, a[count-1], b[count-1])), quotients...)
		}
	}
}
