package tests

import (
	"slices"
	"testing"

	"loop.example/g01283/impl"
)

func TestLimitsOfMoments(t *testing.T) {
	if impl.MaxMoments != 24 || impl.MaxNodes != 12 {
		t.Errorf("MaxMoments = %d, MaxNodes = %d", impl.MaxMoments, impl.MaxNodes)
	}
}

func TestAreMoments(t *testing.T) {
	d := &dice{21}
	for _, p := range somePrimes {
		for n := 1; n < 25; n++ {
			for _, m := range []impl.Moments{d.moments(p, n), of(p, make([]int64, n)...), of(p, slices.Repeat([]int64{p - 1}, n)...)} {
				if !impl.AreMoments(m) {
					t.Errorf("AreMoments(%v) = false", m)
				}
			}
		}
		if impl.AreMoments(d.moments(p, 25)) {
			t.Errorf("AreMoments of 25 moments = true")
		}
	}
	for _, m := range badMoments() {
		if impl.AreMoments(m) {
			t.Errorf("AreMoments(%d, %v) = true", m.Prime, m.List[:min(len(m.List), 30)])
		}
	}
}

func TestApplyFunctional(t *testing.T) {
	d := &dice{22}
	for _, p := range somePrimes {
		for n := 1; n < 25; n++ {
			m := d.moments(p, n)
			for k := range n + 1 {
				f := d.poly(p, k)
				num(t, "ApplyFunctional", numResult(impl.ApplyFunctional(m, f)), slowFunctional(m, f))
			}
			for k := range n {
				num(t, "ApplyFunctional of x^k", numResult(impl.ApplyFunctional(m, ofDegree(k))), m.List[k])
			}
			num(t, "ApplyFunctional of 0", numResult(impl.ApplyFunctional(m, nil)), 0)
			fails(t, "ApplyFunctional of too great a degree", numResult(impl.ApplyFunctional(m, ofDegree(n))), impl.ErrRange)
			fails(t, "ApplyFunctional of the greatest degree", numResult(impl.ApplyFunctional(m, longest(p))), impl.ErrRange)
		}
	}
	num(t, "ApplyFunctional", numResult(impl.ApplyFunctional(of(7, 1, 1, 2, 5), []int64{1, 0, 3})), 0)
}

func TestFunctionalsAreLinear(t *testing.T) {
	d := &dice{23}
	for _, p := range somePrimes {
		for n := 1; n < 25; n++ {
			m, o := d.moments(p, n), d.moments(p, n)
			f, g, k := d.poly(p, int(d.below(int64(n+1)))), d.poly(p, n), d.below(p)
			x, _ := impl.ApplyFunctional(m, f)
			y, _ := impl.ApplyFunctional(m, g)
			h, _ := impl.AddPolys(p, f, g, k)
			num(t, "ApplyFunctional of a sum", numResult(impl.ApplyFunctional(m, h)), (x+k*y)%p)
			z, _ := impl.ApplyFunctional(o, f)
			sum, _ := impl.AddMoments(m, o, k)
			num(t, "ApplyFunctional of added moments", numResult(impl.ApplyFunctional(sum, f)), (x+k*z)%p)
		}
	}
}

func TestHankelDeterminant(t *testing.T) {
	d := &dice{24}
	for _, p := range somePrimes {
		for n := 1; n < 25; n++ {
			// With zeros at the beginning, rows have to change places.
			for zeros := 0; zeros < n; zeros += 1 + n/3 {
				m := d.moments(p, n)
				clear(m.List[:zeros])
				last := (n + 1) / 2
				for k := range last + 1 {
					if k <= 9 || k == last {
						num(t, "HankelDeterminant", numResult(impl.HankelDeterminant(m, int64(k))), slowHankel(m, k))
					}
				}
				for _, k := range append([]int64{int64(last) + 1, int64(last) + 2}, extremes...) {
					fails(t, "HankelDeterminant that is not told", numResult(impl.HankelDeterminant(m, k)), impl.ErrRange)
				}
			}
		}
	}
	for k, want := range []int64{1, 1, 1} {
		num(t, "HankelDeterminant of catalan", numResult(impl.HankelDeterminant(of(7, 1, 1, 2, 5), int64(k))), want)
	}
	num(t, "HankelDeterminant with rows exchanged", numResult(impl.HankelDeterminant(of(7, 0, 1, 0), 2)), 6)
	num(t, "HankelDeterminant with rows exchanged", numResult(impl.HankelDeterminant(of(7, 0, 0, 1, 0, 0), 3)), 6)
	num(t, "HankelDeterminant without rows exchanged", numResult(impl.HankelDeterminant(of(7, 0, 1, 0, 0, 1), 3)), 6)
	num(t, "HankelDeterminant of h(12)", numResult(impl.HankelDeterminant(of(3, slices.Concat(make([]int64, 11), []int64{1}, make([]int64, 11))...), 12)), 1)
}

func TestOrderOf(t *testing.T) {
	d := &dice{25}
	for _, p := range []int64{2, 3, 5, 10007} {
		for n := 1; n < 25; n++ {
			for range 6 {
				m := d.moments(p, n)
				num(t, "OrderOf", numResult(impl.OrderOf(m)), slowOrder(m))
			}
		}
	}
	cases := []struct {
		list []int64
		want int64
	}{
		{[]int64{0}, 0}, {[]int64{3}, 1}, {[]int64{3, 1}, 1}, {[]int64{1, 1, 2}, 2}, {[]int64{1, 1, 1}, 1}, {[]int64{1, 1, 2, 5}, 2},
		{[]int64{1, 1, 2, 5, 0}, 3}, {make([]int64, 24), 0}, {[]int64{0, 1, 0}, 0}, {[]int64{1, 0, 0, 1, 0}, 1}, {[]int64{1, 0, 1, 0, 1}, 2},
	}
	for _, c := range cases {
		num(t, "OrderOf", numResult(impl.OrderOf(of(7, c.list...))), c.want)
	}
	// All Hankel determinants of the Catalan numbers are 1.
	for n := int64(1); n < 25; n++ {
		m, _ := impl.NamedMoments("catalan", 2, n)
		num(t, "OrderOf of catalan", numResult(impl.OrderOf(m)), (n+1)/2)
	}
}

func TestShiftMoments(t *testing.T) {
	d := &dice{26}
	for _, p := range somePrimes {
		for n := 2; n < 25; n++ {
			m := d.moments(p, n)
			r := momentsResult(impl.ShiftMoments(m))
			moments(t, "ShiftMoments", r, p, m.List[1:]...)
			moments(t, "ProductMoments by x", momentsResult(impl.ProductMoments(m, []int64{0, 1})), p, r.lists[0]...)
		}
		fails(t, "ShiftMoments of one", momentsResult(impl.ShiftMoments(of(p, 1))), impl.ErrState)
		fails(t, "ShiftMoments of 0", momentsResult(impl.ShiftMoments(of(p, 0))), impl.ErrState)
	}
}

func TestAffineMoments(t *testing.T) {
	d := &dice{27}
	for _, p := range somePrimes {
		for n := 1; n < 25; n++ {
			m := d.moments(p, n)
			for _, a := range []int64{0, 1, p - 1, d.below(p)} {
				for _, b := range []int64{0, 1, p - 1, d.below(p)} {
					moments(t, "AffineMoments", momentsResult(impl.AffineMoments(m, a, b)), p, slowAffine(m, a, b)...)
				}
			}
			moments(t, "AffineMoments for x", momentsResult(impl.AffineMoments(m, 1, 0)), p, m.List...)
		}
	}
	moments(t, "AffineMoments for 0", momentsResult(impl.AffineMoments(of(7, 3, 1, 2), 0, 0)), 7, 3, 0, 0)
	moments(t, "AffineMoments for a constant", momentsResult(impl.AffineMoments(of(7, 3, 1, 2), 0, 2)), 7, 3, 6, 5)
	moments(t, "AffineMoments for x + 1", momentsResult(impl.AffineMoments(of(7, 1, 1, 2, 5), 1, 1)), 7, 1, 2, 5, 1)
}

func TestAffineMomentsUndoEachOther(t *testing.T) {
	d := &dice{28}
	for _, p := range somePrimes {
		for n := 1; n < 25; n++ {
			m, a, b := d.moments(p, n), 1+d.below(p-1), d.below(p)
			there, _ := impl.AffineMoments(m, a, b)
			back, _ := impl.InverseOf(p, a)
			moments(t, "AffineMoments and back", momentsResult(impl.AffineMoments(there, back, modulo(p, -b*back))), p, m.List...)
		}
	}
}

func TestAddMoments(t *testing.T) {
	d := &dice{29}
	for _, p := range somePrimes {
		for n := 1; n < 25; n++ {
			m, o := d.moments(p, n), d.moments(p, n)
			for _, k := range []int64{0, 1, p - 1, d.below(p)} {
				want := make([]int64, n)
				for i := range want {
					want[i] = modulo(p, m.List[i]+k*o.List[i])
				}
				moments(t, "AddMoments", momentsResult(impl.AddMoments(m, o, k)), p, want...)
			}
			moments(t, "AddMoments of m and -m", momentsResult(impl.AddMoments(m, m, p-1)), p, make([]int64, n)...)
		}
	}
	moments(t, "AddMoments", momentsResult(impl.AddMoments(of(7, 1, 1, 2, 5), of(7, 1, 1, 2, 5), 2)), 7, 3, 3, 6, 1)
}

func TestCutMoments(t *testing.T) {
	d := &dice{30}
	for _, p := range somePrimes {
		for n := 1; n < 25; n++ {
			m := d.moments(p, n)
			for k := 1; k <= n; k++ {
				moments(t, "CutMoments", momentsResult(impl.CutMoments(m, int64(k))), p, m.List[:k]...)
			}
			for _, k := range append([]int64{0, int64(n + 1), 25}, extremes...) {
				fails(t, "CutMoments", momentsResult(impl.CutMoments(m, k)), impl.ErrRange)
			}
		}
	}
}

func TestProductMoments(t *testing.T) {
	d := &dice{31}
	for _, p := range somePrimes {
		for n := 1; n < 25; n++ {
			m := d.moments(p, n)
			for k := range n + 1 {
				f := d.poly(p, k)
				moments(t, "ProductMoments", momentsResult(impl.ProductMoments(m, f)), p, slowProductMoments(m, f)...)
			}
			moments(t, "ProductMoments by 1", momentsResult(impl.ProductMoments(m, []int64{1})), p, m.List...)
			moments(t, "ProductMoments by 0", momentsResult(impl.ProductMoments(m, nil)), p, make([]int64, n)...)
			moments(t, "ProductMoments by x^(n - 1)", momentsResult(impl.ProductMoments(m, ofDegree(n-1))), p, m.List[n-1])
			fails(t, "ProductMoments by x^n", momentsResult(impl.ProductMoments(m, ofDegree(n))), impl.ErrRange)
			fails(t, "ProductMoments by the greatest degree", momentsResult(impl.ProductMoments(m, longest(p))), impl.ErrRange)
		}
	}
	moments(t, "ProductMoments by x - 1", momentsResult(impl.ProductMoments(of(7, 1, 1, 2, 5), []int64{6, 1})), 7, 0, 1, 3)
}

// TestProductsOneByOne checks that the product by f g is that by f of that by g.
func TestProductsOneByOne(t *testing.T) {
	d := &dice{32}
	for _, p := range somePrimes {
		for n := 1; n < 25; n++ {
			m, f, g := d.moments(p, n), d.poly(p, 1+n/3), d.poly(p, 1+n/2)
			both, _ := impl.ProductMoments(m, slowProduct(p, f, g))
			first, _ := impl.ProductMoments(m, g)
			moments(t, "ProductMoments by f and g", momentsResult(impl.ProductMoments(first, f)), p, both.List...)
		}
	}
}
