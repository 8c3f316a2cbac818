package tests

import (
	"fmt"
	"slices"
	"testing"

	"loop.example/g01283/impl"
)

// checkRoots checks what is told of the roots of f.
func checkRoots(t *testing.T, p int64, f []int64) {
	t.Helper()
	name := fmt.Sprintf("of %d, %v", p, f)
	roots := slowRoots(p, f)
	lists(t, "RootsIn "+name, listResult(impl.RootsIn(p, f)), roots)
	sum := int64(0)
	for _, r := range roots {
		multiplicity := slowMultiplicity(p, f, r)
		num(t, fmt.Sprintf("MultiplicityOf %d %s", r, name), numResult(impl.MultiplicityOf(p, f, r)), multiplicity)
		sum += multiplicity
	}
	is(t, "DoesSplit "+name, boolResult(impl.DoesSplit(p, f)), sum == int64(len(f))-1)
	for _, r := range []int64{0, 1, p / 2, p - 1} {
		if !slices.Contains(roots, r) {
			num(t, fmt.Sprintf("MultiplicityOf %d %s", r, name), numResult(impl.MultiplicityOf(p, f, r)), 0)
		}
	}
}

func TestRoots(t *testing.T) {
	d := &dice{151}
	for _, p := range somePrimes {
		for i, f := range somePolys(d, p) {
			// The definitions take their time for great primes.
			if p < 1000 || i%12 == int(p%12) {
				checkRoots(t, p, f)
			}
		}
	}
	lists(t, "RootsIn", listResult(impl.RootsIn(7, []int64{5, 0, 1})), []int64{3, 4})
	lists(t, "RootsIn x", listResult(impl.RootsIn(7, []int64{0, 3})), []int64{0})
	lists(t, "RootsIn a constant", listResult(impl.RootsIn(7, []int64{3})), nil)
	lists(t, "RootsIn x^2 + 1", listResult(impl.RootsIn(7, []int64{1, 0, 1})), nil)
	lists(t, "RootsIn all", listResult(impl.RootsIn(5, []int64{0, 4, 0, 0, 0, 1})), []int64{0, 1, 2, 3, 4})
	num(t, "MultiplicityOf", numResult(impl.MultiplicityOf(7, []int64{1, 5, 1}, 1)), 2)
	num(t, "MultiplicityOf x^24", numResult(impl.MultiplicityOf(7, ofDegree(24), 0)), 24)
	num(t, "MultiplicityOf x^24", numResult(impl.MultiplicityOf(7, ofDegree(24), 1)), 0)
	num(t, "MultiplicityOf a constant", numResult(impl.MultiplicityOf(7, []int64{3}, 0)), 0)
	is(t, "DoesSplit", boolResult(impl.DoesSplit(7, []int64{5, 0, 1})), true)
	is(t, "DoesSplit x^2 + 1", boolResult(impl.DoesSplit(7, []int64{1, 0, 1})), false)
	is(t, "DoesSplit a constant", boolResult(impl.DoesSplit(7, []int64{3})), true)
	is(t, "DoesSplit x^24", boolResult(impl.DoesSplit(2, ofDegree(24))), true)
}

func TestAllRoots(t *testing.T) {
	for _, c := range []struct {
		p int64
		n int
	}{{2, 8}, {3, 6}, {5, 4}, {7, 3}} {
		for _, f := range allPolys(c.p, c.n)[1:] {
			checkRoots(t, c.p, f)
			for r := range c.p {
				num(t, "MultiplicityOf", numResult(impl.MultiplicityOf(c.p, f, r)), slowMultiplicity(c.p, f, r))
			}
		}
	}
}

// TestEachNumberIsFound checks that each number is a root of a polynomial of it and its neighbours,
// for primes below and above what one goroutine tries, and for the greatest one.
func TestEachNumberIsFound(t *testing.T) {
	for _, p := range []int64{2, 3, 97, 1021, 1031, 2039, 2053, 10007} {
		for first := int64(0); first < p; first += impl.MaxDegree {
			var roots []int64
			for r := first; r < min(first+impl.MaxDegree, p); r++ {
				roots = append(roots, r)
			}
			f := productOfRoots(p, p-1, roots)
			lists(t, "RootsIn", listResult(impl.RootsIn(p, f)), roots)
		}
	}
}

// TestPolynomialsOfRoots checks the promise: they split with these roots.
func TestPolynomialsOfRoots(t *testing.T) {
	d := &dice{152}
	for _, p := range somePrimes {
		for n := range impl.MaxDegree + 1 {
			for range 3 {
				roots := d.roots(p, n)
				name := fmt.Sprintf("PolynomialOfRoots %d, %v", p, roots)
				r := listResult(impl.PolynomialOfRoots(p, roots))
				lists(t, name, r, productOfRoots(p, 1, roots))
				f := r.lists[0]
				is(t, "DoesSplit "+name, boolResult(impl.DoesSplit(p, f)), true)
				ascending := slices.Clone(roots)
				slices.Sort(ascending)
				different := slices.Compact(slices.Clone(ascending))
				lists(t, "RootsIn "+name, listResult(impl.RootsIn(p, f)), different)
				var again []int64
				for _, x := range different {
					multiplicity, _ := impl.MultiplicityOf(p, f, x)
					again = append(again, slices.Repeat([]int64{x}, int(multiplicity))...)
				}
				lists(t, "RootsIn with multiplicities "+name, listResult(again, impl.ErrNone), ascending)
			}
		}
		lists(t, "PolynomialOfRoots of nothing", listResult(impl.PolynomialOfRoots(p, nil)), []int64{1})
		lists(t, "PolynomialOfRoots of zeros", listResult(impl.PolynomialOfRoots(p, make([]int64, 24))), ofDegree(24))
	}
	lists(t, "PolynomialOfRoots", listResult(impl.PolynomialOfRoots(7, []int64{3, 4})), []int64{5, 0, 1})
	lists(t, "PolynomialOfRoots", listResult(impl.PolynomialOfRoots(7, []int64{4, 3})), []int64{5, 0, 1})
	lists(t, "PolynomialOfRoots of one number twice", listResult(impl.PolynomialOfRoots(7, []int64{1, 1})), []int64{1, 5, 1})
}

// TestSplitting checks that one factor without roots, however often, keeps a polynomial from
// splitting, and that nothing else does.
func TestSplitting(t *testing.T) {
	d := &dice{153}
	for _, p := range somePrimes {
		without := rootless(p)
		for n := range impl.MaxDegree + 1 {
			f := productOfRoots(p, 1+d.below(p-1), d.roots(p, n))
			for len(f) <= impl.MaxDegree+1 {
				is(t, fmt.Sprintf("DoesSplit %d, %v", p, f), boolResult(impl.DoesSplit(p, f)), len(f) == n+1)
				f = slowProduct(p, f, without)
			}
		}
	}
}

func TestCommonRoots(t *testing.T) {
	d := &dice{154}
	for _, p := range somePrimes {
		without := rootless(p)
		for n := 0; n <= 7; n++ {
			common, first, second := d.roots(p, n), d.roots(p, 2*n), d.roots(p, n/2)
			f := productOfRoots(p, 1+d.below(p-1), slices.Concat(common, first))
			g := productOfRoots(p, 1+d.below(p-1), slices.Concat(common, common, second))
			var want []int64
			for _, x := range slices.Concat(common, first) {
				if slices.Contains(common, x) || slices.Contains(second, x) {
					want = append(want, x)
				}
			}
			slices.Sort(want)
			want = slices.Compact(want)
			for _, factor := range [][]int64{{1}, without} {
				// A common divisor without roots makes no difference.
				h, k := slowProduct(p, f, factor), slowProduct(p, g, factor)
				lists(t, "CommonRoots", listResult(impl.CommonRoots(p, h, k)), want)
				lists(t, "CommonRoots exchanged", listResult(impl.CommonRoots(p, k, h)), want)
			}
			roots, _ := impl.RootsIn(p, f)
			lists(t, "CommonRoots of one polynomial", listResult(impl.CommonRoots(p, f, f)), roots)
			lists(t, "CommonRoots of a constant", listResult(impl.CommonRoots(p, f, []int64{p - 1})), nil)
		}
	}
	for _, c := range []struct {
		p int64
		n int
	}{{2, 4}, {3, 3}} {
		all := allPolys(c.p, c.n)[1:]
		for _, f := range all {
			for _, g := range all {
				want := slices.DeleteFunc(slowRoots(c.p, f), func(x int64) bool { return slowValue(c.p, g, x) != 0 })
				lists(t, "CommonRoots", listResult(impl.CommonRoots(c.p, f, g)), want)
			}
		}
	}
	lists(t, "CommonRoots", listResult(impl.CommonRoots(7, []int64{5, 0, 1}, []int64{4, 1})), []int64{3})
	lists(t, "CommonRoots, none", listResult(impl.CommonRoots(7, []int64{5, 0, 1}, []int64{5, 1})), nil)
	lists(t, "CommonRoots of constants", listResult(impl.CommonRoots(7, []int64{5}, []int64{4})), nil)
}
