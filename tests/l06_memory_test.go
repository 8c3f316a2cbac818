package tests

import (
	"runtime"
	"slices"
	"testing"

	"loop.example/g01283/impl"
)

func TestMemoryOfRoots(t *testing.T) {
	for _, c := range rootCalls {
		for _, s := range []struct {
			f, g []int64
			k    int64
		}{
			{[]int64{1, 2, 3}, []int64{3, 1}, 1}, {[]int64{3, 1}, []int64{1, 2, 3}, 2}, {[]int64{1, 5, 1}, []int64{6, 1}, 6}, {[]int64{5, 0, 1}, []int64{4, 1}, 1},
			{[]int64{2, 1}, []int64{2, 1}, 1}, {[]int64{1, 0, 2, 0, 1}, []int64{1}, 3}, {[]int64{6, 0, 0, 0, 0, 0, 0, 1}, []int64{1, 6}, 5},
		} {
			pure(t, c.name, func(g *guards) result { return c.call(7, g.list(s.f...), g.list(s.g...), s.k) })
			pure(t, c.name+" of one list twice", func(g *guards) result {
				f := g.list(s.f...)
				return c.call(7, f, f, s.k)
			})
		}
		if c.name != "DiscriminantOf" {
			pure(t, c.name+" of constants", func(g *guards) result { return c.call(7, g.list(3), g.list(1), 1) })
		}
		if c.zero {
			pure(t, c.name+" of 0", func(g *guards) result { return c.call(7, g.list(), nil, 1) })
		}
	}
	for _, k := range []int64{0, 1, 24} {
		pure(t, "PowerSums", func(g *guards) result { return listResult(impl.PowerSums(7, g.list(1, 2, 3), k)) })
	}
	pure(t, "MoveRoots by 0", func(g *guards) result { return listResult(impl.MoveRoots(7, g.list(1, 2, 3), 0)) })
	for _, roots := range [][]int64{{}, {0}, {3, 4}, {1, 1, 1}, make([]int64, 24)} {
		pure(t, "PolynomialOfRoots", func(g *guards) result { return listResult(impl.PolynomialOfRoots(7, g.list(roots...))) })
	}
	pure(t, "RootsIn a great field", func(g *guards) result {
		return listResult(impl.RootsIn(10007, g.list(productOfRoots(10007, 1, []int64{0, 1023, 1024, 10006})...)))
	})
	pure(t, "SimplePart of a simple one", func(g *guards) result { return listResult(impl.SimplePart(7, g.list(1, 0, 1))) })
	pure(t, "ReversePolynomial the same again", func(g *guards) result { return listResult(impl.ReversePolynomial(7, g.list(2, 3, 2))) })
}

func TestRootsUnchangedBesideErrors(t *testing.T) {
	g := &guards{}
	for _, c := range rootCalls {
		c.call(7, g.list(1, 0), g.list(1), 1)
		c.call(4, g.list(1, 2), g.list(1, 3), 1)
		c.call(7, g.list(0, 1, 2), g.list(0, 1), 25)
		c.call(7, g.list(0, 1, 2), g.list(), 1)
		c.call(7, g.list(longest(7)...), g.list(longest(7)...), 7)
	}
	impl.PolynomialOfRoots(7, g.list(1, 9))
	impl.PolynomialOfRoots(4, g.list(1, 2))
	impl.PolynomialOfRoots(7, g.list(make([]int64, 25)...))
	if !g.unchanged() {
		t.Errorf("a function of roots changed an argument")
	}
}

func TestRootsSideBySide(t *testing.T) {
	d := &dice{181}
	roots := d.roots(10007, 24)
	f, g := productOfRoots(10007, 3, roots), productOfRoots(10007, 1, append(d.list(10007, 10), roots[:5]...))
	calls := []func() result{func() result { return listResult(impl.PolynomialOfRoots(10007, roots)) }}
	for _, c := range rootCalls {
		calls = append(calls, func() result { return c.call(10007, f, g, 20) })
	}
	sameSideBySide(t, calls)
}

// TestRootsAreJoined checks that no goroutine goes on, or reads a polynomial, behind the call.
func TestRootsAreJoined(t *testing.T) {
	before := runtime.NumGoroutine()
	f := productOfRoots(10007, 1, []int64{0, 5, 5000, 10006})
	for range 100 {
		copied := slices.Clone(f)
		impl.RootsIn(10007, copied)
		overwrite(copied)
		copied = slices.Clone(f)
		impl.DoesSplit(10007, copied)
		overwrite(copied)
		copied = slices.Clone(f)
		impl.CommonRoots(10007, copied, copied)
		overwrite(copied)
	}
	noneLeft(t, before)
}
