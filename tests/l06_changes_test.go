package tests

import (
	"fmt"
	"slices"
	"testing"

	"loop.example/g01283/impl"
)

func TestMoveRoots(t *testing.T) {
	d := &dice{171}
	for _, p := range somePrimes {
		for n := range impl.MaxDegree + 2 {
			f, roots := d.poly(p, n), d.roots(p, max(n-1, 0))
			for _, a := range []int64{0, 1, p - 1, d.below(p)} {
				r := listResult(impl.MoveRoots(p, f, a))
				lists(t, fmt.Sprintf("MoveRoots %d, %v and %d", p, f, a), r, slowCompose(p, f, []int64{modulo(p, -a), 1}))
				lists(t, "MoveRoots and back", listResult(impl.MoveRoots(p, r.lists[0], modulo(p, -a))), f)
				var moved []int64
				for _, x := range roots {
					moved = append(moved, (x+a)%p)
				}
				lists(t, "MoveRoots of roots", listResult(impl.MoveRoots(p, productOfRoots(p, p-1, roots), a)), productOfRoots(p, p-1, moved))
			}
		}
		lists(t, "MoveRoots of 0", listResult(impl.MoveRoots(p, nil, p-1)), nil)
		lists(t, "MoveRoots of a constant", listResult(impl.MoveRoots(p, []int64{p - 1}, 1)), []int64{p - 1})
	}
	lists(t, "MoveRoots", listResult(impl.MoveRoots(7, []int64{5, 0, 1}, 1)), []int64{6, 5, 1})
}

func TestScaleRoots(t *testing.T) {
	d := &dice{172}
	for _, p := range somePrimes {
		for n := range impl.MaxDegree + 2 {
			f, roots := d.poly(p, n), d.roots(p, max(n-1, 0))
			for _, c := range []int64{1, p - 1, 1 + d.below(p-1)} {
				r := listResult(impl.ScaleRoots(p, f, c))
				inverse := slowInverse(p, c)
				want := slowSum(p, nil, slowCompose(p, f, []int64{0, inverse}), slowPower(p, c, int64(n)-1))
				lists(t, fmt.Sprintf("ScaleRoots %d, %v and %d", p, f, c), r, want)
				lists(t, "ScaleRoots and back", listResult(impl.ScaleRoots(p, r.lists[0], inverse)), f)
				var scaled []int64
				for _, x := range roots {
					scaled = append(scaled, x*c%p)
				}
				lists(t, "ScaleRoots of roots", listResult(impl.ScaleRoots(p, productOfRoots(p, p-1, roots), c)), productOfRoots(p, p-1, scaled))
			}
		}
		lists(t, "ScaleRoots of 0", listResult(impl.ScaleRoots(p, nil, p-1)), nil)
		lists(t, "ScaleRoots of a constant", listResult(impl.ScaleRoots(p, []int64{1}, p-1)), []int64{1})
	}
	lists(t, "ScaleRoots", listResult(impl.ScaleRoots(7, []int64{5, 0, 1}, 2)), []int64{6, 0, 1})
	lists(t, "ScaleRoots", listResult(impl.ScaleRoots(7, []int64{1, 2, 3}, 3)), []int64{2, 6, 3})
}

func TestReversePolynomial(t *testing.T) {
	d := &dice{173}
	for _, p := range somePrimes {
		for n := 1; n <= impl.MaxDegree+1; n++ {
			f := d.invertible(p, n)
			r := listResult(impl.ReversePolynomial(p, f))
			lists(t, fmt.Sprintf("ReversePolynomial %d, %v", p, f), r, reversed(f))
			lists(t, "ReversePolynomial and back", listResult(impl.ReversePolynomial(p, r.lists[0])), f)
			// It has the inverse roots.
			roots := d.nonzero(p, n-1)
			constant := slowValue(p, productOfRoots(p, 1, roots), 0)
			var inverses []int64
			for _, x := range roots {
				inverses = append(inverses, slowInverse(p, x))
			}
			lists(t, "ReversePolynomial of roots", listResult(impl.ReversePolynomial(p, productOfRoots(p, 1, roots))), productOfRoots(p, constant, inverses))
		}
	}
	lists(t, "ReversePolynomial", listResult(impl.ReversePolynomial(7, []int64{5, 0, 1})), []int64{1, 0, 5})
	lists(t, "ReversePolynomial of a constant", listResult(impl.ReversePolynomial(7, []int64{3})), []int64{3})
}

func TestPowerSums(t *testing.T) {
	d := &dice{174}
	for _, p := range somePrimes {
		for _, f := range somePolys(d, p) {
			want := slowPowerSums(p, f, impl.MaxDegree)
			for n := range int64(impl.MaxDegree + 1) {
				lists(t, fmt.Sprintf("PowerSums %d, %v and %d", p, f, n), listResult(impl.PowerSums(p, f, n)), want[:n+1])
			}
			if len(f) <= 8 {
				lists(t, "PowerSums by traces", listResult(impl.PowerSums(p, f, 24)), tracesOfPowers(p, f, 24))
			}
		}
		for n := range impl.MaxDegree + 1 {
			for _, roots := range [][]int64{d.roots(p, n), make([]int64, n), slices.Repeat([]int64{p - 1}, n)} {
				f := productOfRoots(p, 1+d.below(p-1), roots)
				lists(t, "PowerSums of roots", listResult(impl.PowerSums(p, f, 24)), sumsOfRoots(p, roots, 24))
			}
		}
		lists(t, "PowerSums of a constant", listResult(impl.PowerSums(p, []int64{p - 1}, 24)), make([]int64, 25))
	}
	lists(t, "PowerSums", listResult(impl.PowerSums(7, []int64{5, 0, 1}, 2)), []int64{2, 0, 4})
	lists(t, "PowerSums, no roots", listResult(impl.PowerSums(7, []int64{1, 0, 1}, 4)), []int64{2, 0, 5, 0, 2})
	lists(t, "PowerSums to 0", listResult(impl.PowerSums(7, ofDegree(8), 0)), []int64{1})
	lists(t, "PowerSums of x^7", listResult(impl.PowerSums(7, ofDegree(7), 1)), []int64{0, 0})
}

func TestAllPowerSums(t *testing.T) {
	for _, c := range []struct {
		p int64
		n int
	}{{2, 6}, {3, 4}, {5, 3}} {
		for _, f := range allPolys(c.p, c.n)[1:] {
			lists(t, fmt.Sprintf("PowerSums %d, %v", c.p, f), listResult(impl.PowerSums(c.p, f, 9)), slowPowerSums(c.p, f, 9))
			lists(t, fmt.Sprintf("PowerSums %d, %v", c.p, f), listResult(impl.PowerSums(c.p, f, 9)), tracesOfPowers(c.p, f, 9))
		}
	}
}
