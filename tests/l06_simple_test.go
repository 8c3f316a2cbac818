package tests

import (
	"fmt"
	"slices"
	"testing"

	"loop.example/g01283/impl"
)

// checkSimple checks the promise that discriminants are not 0 exactly for simple polynomials, and
// what is simple by the definition.
func checkSimple(t *testing.T, p int64, f []int64) {
	t.Helper()
	name := fmt.Sprintf("of %d, %v", p, f)
	divisor := slowDivisor(p, f, slowDerivative(p, f))
	simple := len(divisor) == 1
	is(t, "IsSimplePolynomial "+name, boolResult(impl.IsSimplePolynomial(p, f)), simple)
	part := listResult(impl.SimplePart(p, f))
	if part.code != impl.ErrNone || !slices.Equal(slowProduct(p, part.lists[0], divisor), f) {
		t.Errorf("SimplePart %s = %v, code %d, which times %v is not that", name, part.lists[0], part.code, divisor)
	}
	if len(f) > 1 {
		discriminant := numResult(impl.DiscriminantOf(p, f))
		if discriminant.code != impl.ErrNone || discriminant.num < 0 || discriminant.num >= p || (discriminant.num != 0) != simple {
			t.Errorf("DiscriminantOf %s = %d, code %d, simple: %v", name, discriminant.num, discriminant.code, simple)
		}
	}
}

func TestSimplePolynomials(t *testing.T) {
	d := &dice{161}
	for _, p := range somePrimes {
		for _, f := range somePolys(d, p) {
			checkSimple(t, p, f)
		}
		for n := 1; n <= impl.MaxDegree; n++ {
			// The derivative is 0 if p divides n.
			checkSimple(t, p, ofDegree(n))
			f := ofDegree(n)
			f[0] = p - 1
			checkSimple(t, p, f)
			is(t, "IsSimplePolynomial x^n - 1", boolResult(impl.IsSimplePolynomial(p, f)), int64(n)%p != 0)
		}
	}
	is(t, "IsSimplePolynomial", boolResult(impl.IsSimplePolynomial(7, []int64{5, 0, 1})), true)
	is(t, "IsSimplePolynomial, no roots", boolResult(impl.IsSimplePolynomial(7, []int64{1, 0, 1})), true)
	is(t, "IsSimplePolynomial of a square without roots", boolResult(impl.IsSimplePolynomial(7, []int64{1, 0, 2, 0, 1})), false)
	is(t, "IsSimplePolynomial of a constant", boolResult(impl.IsSimplePolynomial(7, []int64{3})), true)
	lists(t, "SimplePart", listResult(impl.SimplePart(7, []int64{1, 5, 1})), []int64{6, 1})
	lists(t, "SimplePart of a simple one", listResult(impl.SimplePart(7, []int64{3, 0, 2})), []int64{3, 0, 2})
	lists(t, "SimplePart keeps the last number", listResult(impl.SimplePart(7, []int64{3, 1, 3})), []int64{4, 3})
	lists(t, "SimplePart of a constant", listResult(impl.SimplePart(7, []int64{3})), []int64{3})
	lists(t, "SimplePart, the derivative being 0", listResult(impl.SimplePart(2, []int64{1, 0, 1})), []int64{1})
	lists(t, "SimplePart, the derivative being 0", listResult(impl.SimplePart(3, []int64{0, 0, 0, 2})), []int64{2})
}

func TestAllSimplePolynomials(t *testing.T) {
	for _, c := range []struct {
		p int64
		n int
	}{{2, 9}, {3, 6}, {5, 5}, {7, 4}} {
		for _, f := range allPolys(c.p, c.n)[1:] {
			checkSimple(t, c.p, f)
		}
	}
	// The divisor by trying all polynomials.
	all := allPolys(3, 4)
	for _, f := range all[1:] {
		divisor := slowGcd(3, f, slowDerivative(3, f), all)
		is(t, "IsSimplePolynomial", boolResult(impl.IsSimplePolynomial(3, f)), len(divisor) == 1)
	}
}

// TestSimplePartOfRoots has each root once, if no multiplicity is 0 modulo p.
func TestSimplePartOfRoots(t *testing.T) {
	d := &dice{162}
	for _, p := range []int64{29, 97, 9973, 10007} {
		for n := range impl.MaxDegree + 1 {
			roots, c := d.roots(p, n), 1+d.below(p-1)
			different := slices.Clone(roots)
			slices.Sort(different)
			different = slices.Compact(different)
			f := productOfRoots(p, c, roots)
			lists(t, "SimplePart", listResult(impl.SimplePart(p, f)), productOfRoots(p, c, different))
			is(t, "IsSimplePolynomial", boolResult(impl.IsSimplePolynomial(p, f)), len(different) == n)
		}
	}
}

func TestResultants(t *testing.T) {
	d := &dice{163}
	for _, p := range somePrimes {
		for n := range 7 {
			for m := range 7 {
				f, g := d.poly(p, n+1), d.poly(p, m+1)
				num(t, fmt.Sprintf("ResultantOf %d, %v and %v", p, f, g), numResult(impl.ResultantOf(p, f, g)), slowResultant(p, f, g))
			}
		}
		for n := range impl.MaxDegree + 1 {
			for m := range impl.MaxDegree + 1 {
				c, roots, g := 1+d.below(p-1), d.roots(p, n), d.poly(p, m+1)
				f := productOfRoots(p, c, roots)
				want := resultantOfRoots(p, c, roots, g)
				num(t, "ResultantOf", numResult(impl.ResultantOf(p, f, g)), want)
				if n*m%2 == 1 {
					want = modulo(p, -want)
				}
				num(t, "ResultantOf exchanged", numResult(impl.ResultantOf(p, g, f)), want)
			}
		}
	}
	num(t, "ResultantOf", numResult(impl.ResultantOf(7, []int64{5, 0, 1}, []int64{4, 1})), 0)
	num(t, "ResultantOf", numResult(impl.ResultantOf(7, []int64{5, 0, 1}, []int64{1, 1})), 6)
	num(t, "ResultantOf", numResult(impl.ResultantOf(7, []int64{1, 2}, []int64{3, 4})), 2)
	num(t, "ResultantOf exchanged", numResult(impl.ResultantOf(7, []int64{3, 4}, []int64{1, 2})), 5)
	num(t, "ResultantOf constants", numResult(impl.ResultantOf(7, []int64{3}, []int64{5})), 1)
	num(t, "ResultantOf a constant", numResult(impl.ResultantOf(7, []int64{3}, []int64{1, 0, 1})), 2)
	num(t, "ResultantOf a constant", numResult(impl.ResultantOf(7, []int64{1, 0, 1}, []int64{3})), 2)
}

// TestResultantsAre0 checks that they are exactly for polynomials with a common divisor.
func TestResultantsAre0(t *testing.T) {
	for _, c := range []struct {
		p int64
		n int
	}{{2, 6}, {3, 4}, {5, 3}} {
		all := allPolys(c.p, c.n)[1:]
		for _, f := range all {
			for _, g := range all {
				r := numResult(impl.ResultantOf(c.p, f, g))
				common, _ := impl.GcdPolys(c.p, f, g)
				if r.code != impl.ErrNone || (r.num == 0) != (len(common) > 1) {
					t.Errorf("ResultantOf %d, %v and %v = %v, with the common divisor %v", c.p, f, g, r, common)
				}
			}
		}
	}
	d := &dice{164}
	for _, p := range somePrimes {
		without := rootless(p)
		for n := 0; n <= 22; n += 2 {
			f, g := slowProduct(p, without, d.poly(p, n+1)), slowProduct(p, without, d.poly(p, 23-n))
			num(t, "ResultantOf with a common divisor", numResult(impl.ResultantOf(p, f, g)), 0)
		}
	}
}

func TestDiscriminants(t *testing.T) {
	d := &dice{165}
	for _, p := range somePrimes {
		for n := 1; n <= 7; n++ {
			for range 4 {
				f := d.poly(p, n+1)
				num(t, fmt.Sprintf("DiscriminantOf %d, %v", p, f), numResult(impl.DiscriminantOf(p, f)), slowDiscriminant(p, f))
			}
		}
		for n := 1; n <= impl.MaxDegree; n++ {
			different := d.different(p, int(min(int64(n), p)))
			for _, roots := range [][]int64{d.list(p, n), different} {
				c := 1 + d.below(p-1)
				num(t, fmt.Sprintf("DiscriminantOf the roots %v for %d", roots, p), numResult(impl.DiscriminantOf(p, productOfRoots(p, c, roots))), discriminantOfRoots(p, c, roots))
			}
		}
		// b b - 4 a c, and 1 for the degree 1.
		a, b, c := 1+d.below(p-1), d.below(p), d.below(p)
		num(t, "DiscriminantOf the degree 2", numResult(impl.DiscriminantOf(p, []int64{c, b, a})), modulo(p, b*b-4*a*c))
		num(t, "DiscriminantOf the degree 1", numResult(impl.DiscriminantOf(p, []int64{b, a})), 1)
	}
	for _, f := range allPolys(3, 5)[3:] {
		num(t, fmt.Sprintf("DiscriminantOf 3, %v", f), numResult(impl.DiscriminantOf(3, f)), slowDiscriminant(3, f))
	}
	num(t, "DiscriminantOf", numResult(impl.DiscriminantOf(7, []int64{5, 0, 1})), 1)
	num(t, "DiscriminantOf a square", numResult(impl.DiscriminantOf(7, []int64{1, 5, 1})), 0)
	num(t, "DiscriminantOf x^3 - x - 1", numResult(impl.DiscriminantOf(101, []int64{100, 100, 0, 1})), 78)
	num(t, "DiscriminantOf x^p - x", numResult(impl.DiscriminantOf(5, []int64{0, 4, 0, 0, 0, 1})), 4)
	num(t, "DiscriminantOf x^p - 1", numResult(impl.DiscriminantOf(5, []int64{4, 0, 0, 0, 0, 1})), 0)
	num(t, "DiscriminantOf x^24", numResult(impl.DiscriminantOf(5, ofDegree(24))), 0)
}
