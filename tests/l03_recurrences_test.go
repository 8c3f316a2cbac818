package tests

import (
	"slices"
	"testing"

	"loop.example/g01283/impl"
)

func TestLimitsOfRecurrences(t *testing.T) {
	if impl.MaxRows != 12 {
		t.Errorf("MaxRows = %d", impl.MaxRows)
	}
}

func TestIsJacobi(t *testing.T) {
	d := &dice{41}
	for _, p := range somePrimes {
		for _, j := range someData(d, p) {
			if !impl.IsJacobi(j) {
				t.Errorf("IsJacobi(%v) = false", j)
			}
		}
		if impl.IsJacobi(d.data(p, 13)) {
			t.Errorf("IsJacobi of 13 numbers = true")
		}
	}
	for _, j := range badData() {
		if impl.IsJacobi(j) {
			t.Errorf("IsJacobi(%d, %v, %v) = true", j.Prime, j.Alpha[:min(len(j.Alpha), 14)], j.Beta[:min(len(j.Beta), 14)])
		}
	}
}

func TestPolyOf(t *testing.T) {
	d := &dice{42}
	for _, p := range somePrimes {
		for _, j := range someData(d, p) {
			for k := range len(j.Alpha) + 1 {
				want := slowPoly(j, k)
				lists(t, "PolyOf", listResult(impl.PolyOf(j, int64(k))), want)
				if len(want) != k+1 || want[k] != 1 {
					t.Errorf("P(%d) of %v is %v", k, j, want)
				}
			}
		}
	}
	lists(t, "PolyOf the example", listResult(impl.PolyOf(data(7, []int64{1, 2}, []int64{1, 3}), 2)), []int64{6, 4, 1})
	for k, want := range [][]int64{{1}, {6, 1}, {6, 4, 1}, {5, 1, 4, 1}} {
		lists(t, "PolyOf", listResult(impl.PolyOf(sample(), int64(k))), want)
	}
}

// TestFirstBeta checks that Beta[0] is not used for the polynomials.
func TestFirstBeta(t *testing.T) {
	d := &dice{43}
	for _, p := range somePrimes {
		for _, j := range someData(d, p) {
			n := int64(len(j.Alpha))
			other := data(p, j.Alpha, slices.Clone(j.Beta))
			other.Beta[0] = p - 1
			for k := range n + 1 {
				f, _ := impl.PolyOf(j, k)
				lists(t, "PolyOf with another Beta[0]", listResult(impl.PolyOf(other, k)), f)
				g, _ := impl.AssociatedOf(j, k)
				lists(t, "AssociatedOf with another Beta[0]", listResult(impl.AssociatedOf(other, k)), g)
			}
		}
	}
}

func TestAssociatedOf(t *testing.T) {
	d := &dice{44}
	for _, p := range somePrimes {
		for _, j := range someData(d, p) {
			for k := range len(j.Alpha) + 1 {
				lists(t, "AssociatedOf", listResult(impl.AssociatedOf(j, int64(k))), slowAssociated(j, k))
			}
		}
	}
	for k, want := range [][]int64{nil, {1}, {5, 1}, {2, 5, 1}} {
		lists(t, "AssociatedOf", listResult(impl.AssociatedOf(sample(), int64(k))), want)
	}
}

func TestValueOf(t *testing.T) {
	d := &dice{45}
	for _, p := range somePrimes {
		for _, j := range someData(d, p) {
			for k := range len(j.Alpha) + 1 {
				for _, x := range []int64{0, 1, p - 1, d.below(p)} {
					num(t, "ValueOf", numResult(impl.ValueOf(j, int64(k), x)), slowValue(p, slowPoly(j, k), x))
				}
			}
		}
	}
	num(t, "ValueOf", numResult(impl.ValueOf(sample(), 2, 1)), 4)
	num(t, "ValueOf P(0)", numResult(impl.ValueOf(sample(), 0, 6)), 1)
	num(t, "ValueOf a root", numResult(impl.ValueOf(sample(), 1, 1)), 0)
}

func TestWronskiAt(t *testing.T) {
	d := &dice{46}
	for _, p := range somePrimes {
		for _, j := range someData(d, p) {
			product := int64(1)
			for k := range j.Alpha {
				if k > 0 {
					product = product * j.Beta[k] % p
				}
				lists(t, "WronskiAt", listResult(impl.WronskiAt(j, int64(k))), []int64{product})
				first := slowProduct(p, slowPoly(j, k), slowAssociated(j, k+1))
				second := slowProduct(p, slowAssociated(j, k), slowPoly(j, k+1))
				lists(t, "WronskiAt", listResult(impl.WronskiAt(j, int64(k))), slowSum(p, first, second, -1))
			}
		}
	}
	for k, want := range []int64{1, 3, 1} {
		lists(t, "WronskiAt", listResult(impl.WronskiAt(sample(), int64(k))), []int64{want})
	}
}

func TestPartsOfData(t *testing.T) {
	d := &dice{47}
	for _, p := range somePrimes {
		for _, j := range someData(d, p) {
			n := len(j.Alpha)
			for k := range n + 1 {
				if k > 0 {
					isData(t, "CutJacobi", jacobiResult(impl.CutJacobi(j, int64(k))), data(p, j.Alpha[:k], j.Beta[:k]))
				}
				if k < n {
					isData(t, "ShiftJacobi", jacobiResult(impl.ShiftJacobi(j, int64(k))), data(p, j.Alpha[k:], j.Beta[k:]))
				}
			}
		}
	}
	isData(t, "CutJacobi", jacobiResult(impl.CutJacobi(sample(), 2)), data(7, []int64{1, 2}, []int64{1, 3}))
	isData(t, "ShiftJacobi", jacobiResult(impl.ShiftJacobi(sample(), 1)), data(7, []int64{2, 0}, []int64{3, 5}))
}

// TestPolysOfParts checks that cut data have the same polynomials, and that the associated ones are
// those of shifted data.
func TestPolysOfParts(t *testing.T) {
	d := &dice{48}
	for _, p := range somePrimes {
		for _, j := range someData(d, p) {
			n := int64(len(j.Alpha))
			for k := int64(1); k <= n; k++ {
				part, _ := impl.CutJacobi(j, k)
				f, _ := impl.PolyOf(j, k)
				lists(t, "PolyOf cut data", listResult(impl.PolyOf(part, k)), f)
			}
			if n > 1 {
				rest, _ := impl.ShiftJacobi(j, 1)
				g, _ := impl.AssociatedOf(j, n)
				lists(t, "PolyOf shifted data", listResult(impl.PolyOf(rest, n-1)), g)
			}
		}
	}
}

func TestReverseJacobi(t *testing.T) {
	d := &dice{49}
	for _, p := range somePrimes {
		for _, j := range someData(d, p) {
			n := len(j.Alpha)
			want := data(p, make([]int64, n), make([]int64, n))
			want.Beta[0] = j.Beta[0]
			for k := range n {
				want.Alpha[k] = j.Alpha[n-1-k]
				if k > 0 {
					want.Beta[k] = j.Beta[n-k]
				}
			}
			isData(t, "ReverseJacobi", jacobiResult(impl.ReverseJacobi(j)), want)
			isData(t, "ReverseJacobi and back", jacobiResult(impl.ReverseJacobi(want)), j)
			last, _ := impl.PolyOf(j, int64(n))
			lists(t, "PolyOf reversed data", listResult(impl.PolyOf(want, int64(n))), last)
		}
	}
	isData(t, "ReverseJacobi", jacobiResult(impl.ReverseJacobi(sample())), data(7, []int64{0, 2, 1}, []int64{1, 5, 3}))
	one := data(7, []int64{3}, []int64{2})
	isData(t, "ReverseJacobi of one number", jacobiResult(impl.ReverseJacobi(one)), one)
}

func TestAffineJacobi(t *testing.T) {
	d := &dice{50}
	for _, p := range somePrimes {
		for _, j := range someData(d, p) {
			for _, a := range []int64{1, p - 1, 1 + d.below(p-1)} {
				for _, c := range []int64{0, p - 1, d.below(p)} {
					checkAffineJacobi(t, j, a, c)
				}
			}
			isData(t, "AffineJacobi for x", jacobiResult(impl.AffineJacobi(j, 1, 0)), j)
		}
	}
	isData(t, "AffineJacobi", jacobiResult(impl.AffineJacobi(sample(), 2, 3)), data(7, []int64{5, 0, 3}, []int64{1, 5, 6}))
}

// checkAffineJacobi checks the numbers, and that P(k) has, at a x + c, a to the power k times the
// value of P(k) at x.
func checkAffineJacobi(t *testing.T, j impl.Jacobi, a, c int64) {
	t.Helper()
	p := j.Prime
	want := data(p, slices.Clone(j.Alpha), slices.Clone(j.Beta))
	for k := range want.Alpha {
		want.Alpha[k] = modulo(p, a*j.Alpha[k]+c)
		if k > 0 {
			want.Beta[k] = modulo(p, a*a*j.Beta[k])
		}
	}
	isData(t, "AffineJacobi", jacobiResult(impl.AffineJacobi(j, a, c)), want)
	for k := range len(j.Alpha) + 1 {
		f := slowCompose(p, slowPoly(want, k), cut([]int64{c, a}))
		lists(t, "P(k) of affine data", listResult(f, 0), slowSum(p, nil, slowPoly(j, k), slowPower(p, a, int64(k))))
	}
}
