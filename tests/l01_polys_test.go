package tests

import (
	"math"
	"slices"
	"testing"

	"loop.example/g01283/impl"
)

// longest returns a polynomial of the degree MaxDegree for p, with different numbers if p is great.
func longest(p int64) []int64 {
	f := make([]int64, impl.MaxDegree+1)
	for k := range f {
		f[k] = int64(k+1) % p
	}
	f[impl.MaxDegree] = 1
	return f
}

func ofDegree(n int) []int64 {
	f := make([]int64, n+1)
	f[n] = 1
	return f
}

func TestIsPoly(t *testing.T) {
	good := []struct {
		p int64
		f []int64
	}{
		{5, nil}, {5, []int64{}}, {5, []int64{1}}, {5, []int64{4}}, {5, []int64{0, 0, 4}}, {2, []int64{0, 1}},
		{4, []int64{3, 0, 2}}, {10009, []int64{10008}}, {math.MaxInt64, []int64{0, math.MaxInt64 - 1}},
		{0, nil}, {-3, nil}, {math.MinInt64, nil}, {10007, longest(10007)}, {2, longest(2)},
	}
	for _, c := range good {
		if !impl.IsPoly(c.p, c.f) {
			t.Errorf("IsPoly(%d, %v) = false", c.p, c.f)
		}
	}
	bad := []struct {
		p int64
		f []int64
	}{
		{5, []int64{0}}, {5, []int64{1, 0}}, {5, []int64{5}}, {5, []int64{5, 1}}, {5, []int64{-1, 1}}, {5, []int64{1, -1}},
		{5, []int64{1, math.MaxInt64, 1}}, {5, []int64{1, math.MinInt64, 1}}, {1, []int64{1}}, {1, []int64{0}}, {0, []int64{0}},
		{0, []int64{1}}, {-3, []int64{-1}}, {-3, []int64{1}}, {math.MinInt64, []int64{math.MinInt64}}, {math.MinInt64, []int64{1}},
		{math.MaxInt64, []int64{math.MaxInt64}}, {2, ofDegree(25)}, {10007, ofDegree(25)}, {10007, make([]int64, 25)},
		{10007, make([]int64, 1000000)}, {5, append(longest(5), 0)},
	}
	for _, c := range bad {
		if impl.IsPoly(c.p, c.f) {
			t.Errorf("IsPoly(%d, %v) = true", c.p, c.f)
		}
	}
}

func TestSumsAndProducts(t *testing.T) {
	for _, p := range []int64{2, 3} {
		all := allPolys(p, 3)
		for _, f := range all {
			for _, g := range all {
				for k := range p {
					lists(t, "AddPolys", listResult(impl.AddPolys(p, f, g, k)), slowSum(p, f, g, k))
				}
				lists(t, "MultiplyPolys", listResult(impl.MultiplyPolys(p, f, g)), slowProduct(p, f, g))
				lists(t, "ComposePolys", listResult(impl.ComposePolys(p, f, g)), slowCompose(p, f, g))
			}
		}
	}
	d := &dice{1}
	for _, p := range somePrimes {
		for n := range 26 {
			f, g, k := d.poly(p, n), d.poly(p, int(d.below(26))), d.below(p)
			lists(t, "AddPolys", listResult(impl.AddPolys(p, f, g, k)), slowSum(p, f, g, k))
			lists(t, "AddPolys", listResult(impl.AddPolys(p, f, f, p-1)), nil)
			lists(t, "AddPolys", listResult(impl.AddPolys(p, f, g, 0)), f)
			g = d.poly(p, int(d.below(int64(27-max(n, 1)))))
			lists(t, "MultiplyPolys", listResult(impl.MultiplyPolys(p, f, g)), slowProduct(p, f, g))
			lists(t, "MultiplyPolys", listResult(impl.MultiplyPolys(p, g, f)), slowProduct(p, f, g))
		}
	}
}

func TestProductLimits(t *testing.T) {
	for _, p := range []int64{2, 7, 10007} {
		for n := range 25 {
			f, g, h := ofDegree(n), ofDegree(24-n), ofDegree(25-n)
			lists(t, "MultiplyPolys to the degree 24", listResult(impl.MultiplyPolys(p, f, g)), ofDegree(24))
			if n > 0 {
				fails(t, "MultiplyPolys to the degree 25", listResult(impl.MultiplyPolys(p, f, h)), impl.ErrLimit)
				fails(t, "MultiplyPolys to the degree 25", listResult(impl.MultiplyPolys(p, h, f)), impl.ErrLimit)
			}
		}
		fails(t, "MultiplyPolys to the degree 48", listResult(impl.MultiplyPolys(p, longest(p), longest(p))), impl.ErrLimit)
		lists(t, "MultiplyPolys by 1", listResult(impl.MultiplyPolys(p, longest(p), []int64{1})), longest(p))
		lists(t, "MultiplyPolys by 0", listResult(impl.MultiplyPolys(p, longest(p), nil)), nil)
		lists(t, "MultiplyPolys of 0", listResult(impl.MultiplyPolys(p, nil, longest(p))), nil)
	}
}

func TestQuotientsLeadBack(t *testing.T) {
	check := func(p int64, f, g []int64) {
		t.Helper()
		q, r, code := impl.DividePolys(p, f, g)
		if code != impl.ErrNone || !impl.IsPoly(p, q) || !impl.IsPoly(p, r) || len(r) >= len(g) {
			t.Fatalf("DividePolys(%d, %v, %v) = %v, %v, %d", p, f, g, q, r, code)
		}
		if back := slowSum(p, slowProduct(p, q, g), r, 1); !slices.Equal(back, f) {
			t.Fatalf("DividePolys(%d, %v, %v) = %v, %v leads to %v", p, f, g, q, r, back)
		}
	}
	for _, p := range []int64{2, 3} {
		all := allPolys(p, 4)
		for _, f := range all {
			for _, g := range all[1:] {
				check(p, f, g)
			}
		}
	}
	d := &dice{2}
	for _, p := range somePrimes {
		for n := range 26 {
			for m := 1; m < 26; m++ {
				check(p, d.poly(p, n), d.poly(p, m))
			}
		}
	}
	lists(t, "DividePolys", pairResult(impl.DividePolys(5, []int64{4, 2, 2}, []int64{3, 1})), []int64{1, 2}, []int64{1})
	lists(t, "DividePolys without rest", pairResult(impl.DividePolys(5, []int64{3, 2, 2}, []int64{3, 1})), []int64{1, 2}, nil)
	lists(t, "DividePolys by 2", pairResult(impl.DividePolys(5, []int64{1, 1}, []int64{2})), []int64{3, 3}, nil)
	lists(t, "DividePolys by a longer one", pairResult(impl.DividePolys(5, []int64{1, 1}, []int64{0, 0, 2})), nil, []int64{1, 1})
	lists(t, "DividePolys of 0", pairResult(impl.DividePolys(5, nil, []int64{0, 2})), nil, nil)
}

func TestPowerPoly(t *testing.T) {
	for _, p := range []int64{2, 3, 5, 10007} {
		for _, f := range [][]int64{nil, {1}, {p - 1}, {1, 1}, {0, 1}, {p - 1, 0, 1}, {1, p - 1, p - 1, 1}, longest(p)[12:]} {
			power := []int64{1}
			for k := range int64(25) {
				r := listResult(impl.PowerPoly(p, f, k))
				if len(power) > 25 {
					fails(t, "PowerPoly", r, impl.ErrLimit)
				} else {
					lists(t, "PowerPoly", r, power)
				}
				power = slowProduct(p, power, f)
			}
		}
	}
	lists(t, "PowerPoly of 0 and 0", listResult(impl.PowerPoly(7, nil, 0)), []int64{1})
	lists(t, "PowerPoly of 0 and 24", listResult(impl.PowerPoly(7, nil, 24)), nil)
	lists(t, "PowerPoly of a constant", listResult(impl.PowerPoly(7, []int64{3}, 24)), []int64{1})
	lists(t, "PowerPoly to the degree 24", listResult(impl.PowerPoly(7, []int64{0, 1}, 24)), ofDegree(24))
	lists(t, "PowerPoly to the degree 24", listResult(impl.PowerPoly(7, ofDegree(8), 3)), ofDegree(24))
	fails(t, "PowerPoly to the degree 25", listResult(impl.PowerPoly(7, ofDegree(5), 5)), impl.ErrLimit)
	fails(t, "PowerPoly to the degree 26", listResult(impl.PowerPoly(7, ofDegree(13), 2)), impl.ErrLimit)
	fails(t, "PowerPoly to the degree 576", listResult(impl.PowerPoly(7, longest(7), 24)), impl.ErrLimit)
}

func TestMonicPolyAndDerivativeOf(t *testing.T) {
	d := &dice{3}
	for _, p := range somePrimes {
		for n := 1; n < 26; n++ {
			f := d.poly(p, n)
			r := listResult(impl.MonicPoly(p, f))
			lists(t, "MonicPoly times the last number", listResult(slowProduct(p, r.lists[0], f[n-1:]), r.code), f)
			if r.lists[0][n-1] != 1 {
				t.Errorf("MonicPoly(%d, %v) = %v", p, f, r.lists[0])
			}
			want := []int64{}
			for k := 1; k < n; k++ {
				want = append(want, int64(k)*f[k]%p)
			}
			lists(t, "DerivativeOf", listResult(impl.DerivativeOf(p, f)), cut(want))
		}
	}
	lists(t, "DerivativeOf of 0", listResult(impl.DerivativeOf(5, nil)), nil)
	lists(t, "DerivativeOf of a constant", listResult(impl.DerivativeOf(5, []int64{3})), nil)
	lists(t, "DerivativeOf of x^5", listResult(impl.DerivativeOf(5, ofDegree(5))), nil)
	lists(t, "DerivativeOf of x^6 + x", listResult(impl.DerivativeOf(3, []int64{0, 1, 0, 0, 0, 0, 1})), []int64{1})
	fails(t, "MonicPoly of 0", listResult(impl.MonicPoly(5, nil)), impl.ErrState)
}

func TestValueAt(t *testing.T) {
	d := &dice{4}
	for _, p := range somePrimes {
		for n := range 26 {
			f := d.poly(p, n)
			for _, x := range []int64{0, 1, p - 1, d.below(p)} {
				num(t, "ValueAt", numResult(impl.ValueAt(p, f, x)), slowValue(p, f, x))
			}
		}
	}
}

func TestGcdDividesBoth(t *testing.T) {
	for _, p := range []int64{2, 3} {
		all := allPolys(p, 3)
		for _, f := range all {
			for _, g := range all {
				r := listResult(impl.GcdPolys(p, f, g))
				lists(t, "GcdPolys", r, slowGcd(p, f, g, all))
			}
		}
	}
	d := &dice{5}
	for _, p := range somePrimes {
		for n := 1; n < 13; n++ {
			common, f, g := d.poly(p, n), d.poly(p, 25-n), d.poly(p, 26-n)
			h, code := impl.GcdPolys(p, slowProduct(p, common, f), slowProduct(p, common, g))
			if code != impl.ErrNone || len(h) < n || h[len(h)-1] != 1 {
				t.Fatalf("GcdPolys = %v, %d with the common divisor %v", h, code, common)
			}
			for _, k := range [][]int64{f, g} {
				_, rest, _ := impl.DividePolys(p, slowProduct(p, common, k), h)
				if len(rest) > 0 {
					t.Errorf("GcdPolys = %v does not divide %v", h, slowProduct(p, common, k))
				}
			}
			_, rest, _ := impl.DividePolys(p, h, common)
			if len(rest) > 0 {
				t.Errorf("GcdPolys = %v is no multiple of %v", h, common)
			}
		}
	}
	lists(t, "GcdPolys of 0 and 0", listResult(impl.GcdPolys(5, nil, nil)), nil)
	lists(t, "GcdPolys of f and 0", listResult(impl.GcdPolys(5, []int64{1, 2}, nil)), []int64{3, 1})
	lists(t, "GcdPolys of 0 and f", listResult(impl.GcdPolys(5, nil, []int64{1, 2})), []int64{3, 1})
	lists(t, "GcdPolys of constants", listResult(impl.GcdPolys(5, []int64{2}, []int64{3})), []int64{1})
}

// slowGcd returns the longest monic polynomial of all that divides both.
func slowGcd(p int64, f, g []int64, all [][]int64) []int64 {
	var best []int64
	if len(f) == 0 && len(g) == 0 {
		return best
	}
	for _, h := range all[1:] {
		if h[len(h)-1] == 1 && len(h) > len(best) && slowDivides(p, h, f, all) && slowDivides(p, h, g, all) {
			best = h
		}
	}
	return best
}

func TestShiftsUndoThemselves(t *testing.T) {
	d := &dice{6}
	for _, p := range somePrimes {
		for n := range 26 {
			f, c := d.poly(p, n), d.below(p)
			r := listResult(impl.ShiftPoly(p, f, c))
			lists(t, "ShiftPoly", r, slowCompose(p, f, []int64{c, 1}))
			lists(t, "ShiftPoly and back", listResult(impl.ShiftPoly(p, r.lists[0], modulo(p, -c))), f)
			lists(t, "ShiftPoly by 0", listResult(impl.ShiftPoly(p, f, 0)), f)
			x := d.below(p)
			num(t, "ValueAt of a shifted one", numResult(impl.ValueAt(p, r.lists[0], x)), slowValue(p, f, (x+c)%p))
		}
	}
}

func TestComposePolys(t *testing.T) {
	d := &dice{7}
	for _, p := range somePrimes {
		for n := range 26 {
			for m := range 26 {
				f, g := d.poly(p, n), d.poly(p, m)
				r := listResult(impl.ComposePolys(p, f, g))
				if n > 1 && m > 1 && (n-1)*(m-1) > 24 {
					fails(t, "ComposePolys", r, impl.ErrLimit)
					continue
				}
				lists(t, "ComposePolys", r, slowCompose(p, f, g))
			}
		}
	}
	lists(t, "ComposePolys to the degree 24", listResult(impl.ComposePolys(5, ofDegree(4), ofDegree(6))), ofDegree(24))
	fails(t, "ComposePolys to the degree 25", listResult(impl.ComposePolys(5, ofDegree(5), ofDegree(5))), impl.ErrLimit)
	lists(t, "ComposePolys at a root", listResult(impl.ComposePolys(5, []int64{3, 1}, []int64{2})), nil)
	lists(t, "ComposePolys at 0", listResult(impl.ComposePolys(5, longest(5), nil)), []int64{1})
	lists(t, "ComposePolys of 0", listResult(impl.ComposePolys(5, nil, longest(5))), nil)
	lists(t, "ComposePolys of 0 at 0", listResult(impl.ComposePolys(5, nil, nil)), nil)
}

func TestInterpolationHasItsValues(t *testing.T) {
	lists(t, "InterpolatePoly", listResult(impl.InterpolatePoly(5, []int64{0, 1}, []int64{2, 4})), []int64{2, 2})
	d := &dice{8}
	for _, p := range somePrimes {
		for n := range int(min(p, 25)) + 1 {
			nodes, values := d.different(p, n), d.list(p, n)
			f, code := impl.InterpolatePoly(p, nodes, values)
			if code != impl.ErrNone || !impl.IsPoly(p, f) || len(f) > n {
				t.Fatalf("InterpolatePoly(%d, %v, %v) = %v, %d", p, nodes, values, f, code)
			}
			for i, x := range nodes {
				if slowValue(p, f, x) != values[i] {
					t.Errorf("InterpolatePoly(%d, %v, %v) = %v", p, nodes, values, f)
				}
			}
			// A polynomial with fewer numbers than there are nodes comes back from its values.
			g := d.poly(p, n/2)
			for i, x := range nodes {
				values[i] = slowValue(p, g, x)
			}
			lists(t, "InterpolatePoly", listResult(impl.InterpolatePoly(p, nodes, values)), g)
		}
	}
	lists(t, "InterpolatePoly of nothing", listResult(impl.InterpolatePoly(5, nil, nil)), nil)
	lists(t, "InterpolatePoly of zeros", listResult(impl.InterpolatePoly(5, []int64{3, 1}, []int64{0, 0})), nil)
}

func TestInterpolatePolyErrors(t *testing.T) {
	ascending := make([]int64, 26)
	for i := range ascending {
		ascending[i] = int64(i)
	}
	zeros := make([]int64, 26)
	lists(t, "InterpolatePoly of 25 nodes", listResult(impl.InterpolatePoly(29, ascending[:25], zeros[:25])), nil)
	bad := []struct {
		name          string
		p             int64
		nodes, values []int64
	}{
		{"26 nodes", 29, ascending, zeros},
		{"too many values", 29, ascending[:3], zeros[:4]},
		{"too many nodes", 29, ascending[:4], zeros[:3]},
		{"values alone", 29, nil, zeros[:1]},
		{"nodes alone", 29, zeros[:1], nil},
		{"equal nodes", 29, []int64{1, 2, 1}, []int64{3, 4, 3}},
		{"equal nodes side by side", 29, []int64{0, 0}, []int64{1, 1}},
		{"a node of p", 29, []int64{1, 29}, []int64{3, 4}},
		{"a node below 0", 29, []int64{-1, 2}, []int64{3, 4}},
		{"a value of p", 29, []int64{1, 2}, []int64{29, 4}},
		{"a value below 0", 29, []int64{1, 2}, []int64{3, -1}},
		{"extreme nodes", 29, []int64{math.MinInt64, math.MaxInt64}, []int64{3, 1}},
		{"extreme values", 29, []int64{0, 1}, []int64{math.MinInt64, math.MaxInt64}},
		{"very long lists", 29, make([]int64, 1000000), make([]int64, 1000000)},
	}
	for _, c := range bad {
		fails(t, "InterpolatePoly with "+c.name, listResult(impl.InterpolatePoly(c.p, c.nodes, c.values)), impl.ErrRange)
	}
	for _, p := range noPrimes {
		fails(t, "InterpolatePoly for no prime", listResult(impl.InterpolatePoly(p, []int64{0, 1}, []int64{1, 0})), impl.ErrRange)
		fails(t, "InterpolatePoly for no prime", listResult(impl.InterpolatePoly(p, nil, nil)), impl.ErrRange)
	}
}
