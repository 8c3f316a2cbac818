package tests

import (
	"fmt"
	"slices"
	"testing"

	"loop.example/g01283/impl"
)

// catalan are the moments of the document's example.
func catalan() impl.Moments { return of(7, 1, 1, 2, 5) }

func TestOrthogonalPolynomial(t *testing.T) {
	for _, x := range allTold() {
		for k := range impl.MaxRows + 1 {
			name := fmt.Sprintf("OrthogonalPolynomial of %v and %d", x.m, k)
			r := listResult(impl.OrthogonalPolynomial(x.m, int64(k)))
			if k < len(x.polys) {
				lists(t, name, r, x.polys[k])
			} else {
				fails(t, name, r, impl.ErrState)
			}
		}
	}
	for k, want := range [][]int64{{1}, {6, 1}, {1, 4, 1}} {
		lists(t, "OrthogonalPolynomial of catalan", listResult(impl.OrthogonalPolynomial(catalan(), int64(k))), want)
	}
	lists(t, "OrthogonalPolynomial of 0", listResult(impl.OrthogonalPolynomial(of(2, 0), 0)), []int64{1})
}

// TestOnlyOrthogonalPolynomials checks that P(k) is the only polynomial that is orthogonal.
func TestOnlyOrthogonalPolynomials(t *testing.T) {
	for _, x := range allTold() {
		p := x.m.Prime
		for k := range x.polys {
			if p > 3 || k > 3 {
				continue
			}
			for _, f := range allPolys(p, k+1) {
				if len(f) != k+1 || f[k] != 1 {
					continue
				}
				yes, code := impl.IsOrthogonal(x.m, f, int64(k))
				if code != impl.ErrNone || yes != slices.Equal(f, x.polys[k]) {
					t.Errorf("IsOrthogonal of %v, %v and %d = %v, code %d", x.m, f, k, yes, code)
				}
			}
		}
	}
}

func TestNormOf(t *testing.T) {
	zeros := 0
	for _, x := range allTold() {
		for k := range impl.MaxRows + 1 {
			name := fmt.Sprintf("NormOf %v and %d", x.m, k)
			r := numResult(impl.NormOf(x.m, int64(k)))
			if k >= len(x.polys) || 2*k+1 > len(x.m.List) {
				fails(t, name, r, impl.ErrState)
				continue
			}
			num(t, name, r, x.norm(k))
			if r.num == 0 {
				zeros++
			}
			if (r.num != 0) != (x.order > k) {
				t.Errorf("%s = %d for the order %d", name, r.num, x.order)
			}
		}
	}
	if zeros == 0 {
		t.Errorf("no norm was 0")
	}
	num(t, "NormOf 0", numResult(impl.NormOf(of(5, 0), 0)), 0)
	num(t, "NormOf P(1), which is 0", numResult(impl.NormOf(of(5, 1, 1, 1), 1)), 0)
	fails(t, "NormOf P(1) with two moments", numResult(impl.NormOf(of(5, 1, 1), 1)), impl.ErrState)
}

// TestNormsAreQuotients checks that norms are quotients of Hankel determinants.
func TestNormsAreQuotients(t *testing.T) {
	for _, x := range allTold() {
		for k := range x.polys {
			if 2*k+1 > len(x.m.List) {
				continue
			}
			norm, _ := impl.NormOf(x.m, int64(k))
			above, _ := impl.HankelDeterminant(x.m, int64(k)+1)
			below, _ := impl.HankelDeterminant(x.m, int64(k))
			if norm*below%x.m.Prime != above {
				t.Errorf("NormOf %v and %d = %d, with the Hankel determinants %d and %d", x.m, k, norm, above, below)
			}
		}
	}
}

func TestNormsOf(t *testing.T) {
	for _, x := range allTold() {
		lists(t, fmt.Sprintf("NormsOf %v", x.m), listResult(impl.NormsOf(x.m)), x.norms)
		if order, _ := impl.OrderOf(x.m); int(order) != len(x.norms) {
			t.Errorf("NormsOf %v are %v for the order %d", x.m, x.norms, order)
		}
	}
	lists(t, "NormsOf catalan", listResult(impl.NormsOf(catalan())), []int64{1, 1})
	lists(t, "NormsOf the order 0", listResult(impl.NormsOf(of(7, 0, 1, 2))), nil)
	lists(t, "NormsOf one moment", listResult(impl.NormsOf(of(7, 3))), []int64{3})
	norms, _ := impl.NormsOf((&dice{71}).regular(101, 23))
	if len(norms) != impl.MaxRows {
		t.Errorf("NormsOf 23 regular moments = %v", norms)
	}
}

func TestJacobiOfMoments(t *testing.T) {
	for _, x := range allTold() {
		for n := 1; n <= impl.MaxRows; n++ {
			name := fmt.Sprintf("JacobiOfMoments %v and %d", x.m, n)
			r := jacobiResult(impl.JacobiOfMoments(x.m, int64(n)))
			if n >= len(x.polys) {
				fails(t, name, r, impl.ErrState)
				continue
			}
			j := x.jacobi(n)
			isData(t, name, r, j)
			for k := range n + 1 {
				lists(t, "PolyOf "+name, listResult(impl.PolyOf(j, int64(k))), x.polys[k])
			}
		}
	}
	isData(t, "JacobiOfMoments", jacobiResult(impl.JacobiOfMoments(catalan(), 2)), data(7, []int64{1, 2}, []int64{1, 1}))
	isData(t, "JacobiOfMoments", jacobiResult(impl.JacobiOfMoments(of(7, 3, 5), 1)), data(7, []int64{4}, []int64{3}))
	fails(t, "JacobiOfMoments of one moment", jacobiResult(impl.JacobiOfMoments(of(7, 3), 1)), impl.ErrState)
}

func TestMomentsOfJacobi(t *testing.T) {
	d := &dice{72}
	for _, p := range somePrimes {
		for _, j := range someData(d, p) {
			list := slowMomentsOfJacobi(j, 2*len(j.Alpha))
			for n := 1; n <= len(list); n++ {
				moments(t, "MomentsOfJacobi", momentsResult(impl.MomentsOfJacobi(j, int64(n))), p, list[:n]...)
			}
		}
	}
	moments(t, "MomentsOfJacobi", momentsResult(impl.MomentsOfJacobi(data(7, []int64{1, 2}, []int64{1, 1}), 4)), 7, 1, 1, 2, 5)
	moments(t, "MomentsOfJacobi of one number", momentsResult(impl.MomentsOfJacobi(data(7, []int64{3}, []int64{2}), 2)), 7, 2, 6)
	fails(t, "MomentsOfJacobi that are not told", momentsResult(impl.MomentsOfJacobi(data(7, []int64{3}, []int64{2}), 3)), impl.ErrRange)
}

// TestJacobiDataLeadBack checks that Jacobi data are those of their moments, and that moments are
// those of their Jacobi data.
func TestJacobiDataLeadBack(t *testing.T) {
	d := &dice{73}
	for _, p := range somePrimes {
		for _, j := range someData(d, p) {
			n := int64(len(j.Alpha))
			m, _ := impl.MomentsOfJacobi(j, 2*n)
			isData(t, "JacobiOfMoments of MomentsOfJacobi", jacobiResult(impl.JacobiOfMoments(m, n)), j)
			num(t, "OrderOf MomentsOfJacobi", numResult(impl.OrderOf(m)), n)
		}
	}
	for _, x := range allTold() {
		for n := 1; n < len(x.polys); n++ {
			j, _ := impl.JacobiOfMoments(x.m, int64(n))
			moments(t, "MomentsOfJacobi of JacobiOfMoments", momentsResult(impl.MomentsOfJacobi(j, 2*int64(n))), x.m.Prime, x.m.List[:2*n]...)
		}
	}
}

func TestNamedMomentsHaveData(t *testing.T) {
	m, _ := impl.NamedMoments("catalan", 101, 24)
	isData(t, "JacobiOfMoments of catalan", jacobiResult(impl.JacobiOfMoments(m, 12)), data(101, append([]int64{1}, slices.Repeat([]int64{2}, 11)...), slices.Repeat([]int64{1}, 12)))
	for _, c := range []struct {
		name        string
		alpha, beta func(k int64) int64
	}{
		{"hermite", func(k int64) int64 { return 0 }, func(k int64) int64 { return max(k, 1) }},
		{"laguerre", func(k int64) int64 { return 2*k + 1 }, func(k int64) int64 { return max(k*k, 1) }},
		{"poisson", func(k int64) int64 { return k + 1 }, func(k int64) int64 { return max(k, 1) }},
	} {
		j := data(9973, nil, nil)
		for k := range int64(12) {
			j.Alpha, j.Beta = append(j.Alpha, c.alpha(k)), append(j.Beta, c.beta(k))
		}
		m, _ := impl.NamedMoments(c.name, 9973, 24)
		isData(t, "JacobiOfMoments of "+c.name, jacobiResult(impl.JacobiOfMoments(m, 12)), j)
	}
	// Beta[5] of hermite is 5, which is 0 modulo 5: the order is 5.
	m, _ = impl.NamedMoments("hermite", 5, 24)
	isData(t, "JacobiOfMoments of hermite modulo 5", jacobiResult(impl.JacobiOfMoments(m, 5)), data(5, make([]int64, 5), []int64{1, 1, 2, 3, 4}))
	num(t, "NormOf hermite modulo 5", numResult(impl.NormOf(m, 5)), 0)
	fails(t, "JacobiOfMoments of hermite modulo 5", jacobiResult(impl.JacobiOfMoments(m, 6)), impl.ErrState)
}

func TestOrthogonalPolynomialsAreOrthogonal(t *testing.T) {
	for _, x := range allTold() {
		for k, f := range x.polys {
			for i := range k + 1 {
				num(t, fmt.Sprintf("IsOrthogonal %v to %d", f, i), boolResult(impl.IsOrthogonal(x.m, f, int64(i))), 1)
			}
			if k < x.order {
				// The norm is L of P(k) x^k, and is not 0.
				num(t, fmt.Sprintf("IsOrthogonal %v to %d", f, k+1), boolResult(impl.IsOrthogonal(x.m, f, int64(k)+1)), 0)
			}
		}
	}
}

func TestIsOrthogonal(t *testing.T) {
	d := &dice{74}
	for _, p := range []int64{2, 7, 10007} {
		for n := 1; n < 25; n++ {
			for _, m := range []impl.Moments{d.moments(p, n), of(p, make([]int64, n)...), of(p, append(make([]int64, n-1), 1)...)} {
				for count := range 26 {
					for _, f := range [][]int64{d.poly(p, count), ofDegree(max(count-1, 0))} {
						checkIsOrthogonal(t, m, f)
					}
				}
			}
		}
	}
	num(t, "IsOrthogonal", boolResult(impl.IsOrthogonal(catalan(), []int64{6, 1}, 1)), 1)
	num(t, "IsOrthogonal", boolResult(impl.IsOrthogonal(catalan(), []int64{6, 1}, 2)), 0)
	num(t, "IsOrthogonal", boolResult(impl.IsOrthogonal(catalan(), []int64{1, 4, 1}, 2)), 1)
	num(t, "IsOrthogonal of 0", boolResult(impl.IsOrthogonal(of(7, 1), nil, 12)), 1)
	num(t, "IsOrthogonal to nothing", boolResult(impl.IsOrthogonal(of(7, 1), longest(7), 0)), 1)
	fails(t, "IsOrthogonal of too great a degree", boolResult(impl.IsOrthogonal(of(7, 0), []int64{0, 1}, 1)), impl.ErrState)
	fails(t, "IsOrthogonal to too many", boolResult(impl.IsOrthogonal(of(7, 0), []int64{1}, 2)), impl.ErrState)
}

// checkIsOrthogonal applies the functional to f times the powers of x.
func checkIsOrthogonal(t *testing.T, m impl.Moments, f []int64) {
	t.Helper()
	want := int64(1)
	shifted := f
	for k := range impl.MaxRows + 1 {
		name := fmt.Sprintf("IsOrthogonal of %v, %v and %d", m, f, k)
		r := boolResult(impl.IsOrthogonal(m, f, int64(k)))
		if len(f) > 0 && k > 0 {
			if len(f)-1+k-1 >= len(m.List) {
				fails(t, name, r, impl.ErrState)
				continue
			}
			if slowFunctional(m, shifted) != 0 {
				want = 0
			}
			shifted = append([]int64{0}, shifted...)
		}
		num(t, name, r, want)
	}
}
