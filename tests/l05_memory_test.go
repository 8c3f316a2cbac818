package tests

import (
	"runtime"
	"slices"
	"testing"

	"loop.example/g01283/impl"
)

func TestMemoryOfFractions(t *testing.T) {
	for _, c := range fractionCalls {
		for _, s := range []struct {
			f, g []int64
			n    int64
		}{
			{[]int64{1, 2, 3}, []int64{3, 1}, 5}, {[]int64{3, 1}, []int64{1, 2, 3}, 2}, {[]int64{1, 2, 3}, []int64{1}, 3}, {[]int64{}, []int64{1, 1}, 3},
			{[]int64{1}, []int64{1}, 1}, {[]int64{2, 1}, []int64{2, 1}, 0}, {[]int64{1, 2, 1}, []int64{2, 1, 4, 4, 1}, 24},
		} {
			pure(t, c.name, func(g *guards) result { return c.call(7, g.list(s.f...), g.list(s.g...), s.n) })
			pure(t, c.name+" of one list twice", func(g *guards) result {
				f := g.list(s.g...)
				return c.call(7, f, f, s.n)
			})
		}
	}
	for _, c := range listCalls {
		for _, list := range [][]int64{{1, 1, 2, 5, 3, 3}, {2, 1, 3, 1, 4, 1, 5, 0}, {3, 5}, slices.Repeat([]int64{2}, 24)} {
			pure(t, c.name, func(g *guards) result { return c.call(7, g.list(list...)) })
		}
	}
	for _, list := range [][]int64{{1}, {0}, {1, 2, 3}, {1, 2, 0}, {0, 0, 0}} {
		pure(t, "PadeOf a polynomial", func(g *guards) result {
			return pairResult(impl.PadeOf(7, g.list(list...), int64(len(list))-1, 0))
		})
		pure(t, "MultiplySeries", func(g *guards) result {
			return listResult(impl.MultiplySeries(7, g.list(list...), g.list(beginning([]int64{1}, len(list))...)))
		})
		pure(t, "MultiplySeries of one list twice", func(g *guards) result {
			series := g.list(list...)
			return listResult(impl.MultiplySeries(7, series, series))
		})
	}
	for _, list := range [][]int64{{1, 1, 2, 5, 0}, {3, 6, 5, 3}, {4}, {0, 0}} {
		pure(t, "StepsOf", func(g *guards) result { return listResult(impl.StepsOf(of(7, g.list(list...)...))) })
	}
	for _, n := range []int64{0, 1, 6, 24} {
		pure(t, "SeriesOfJacobi", func(g *guards) result {
			return listResult(impl.SeriesOfJacobi(data(7, g.list(1, 2, 0), g.list(1, 3, 5)), n))
		})
		pure(t, "SeriesOfJacobi of one number", func(g *guards) result {
			return listResult(impl.SeriesOfJacobi(data(7, g.list(0), g.list(1)), n))
		})
	}
}

// TestMemoryOfConvergents has quotients 0, behind which the convergent is that before the last one
// again.
func TestMemoryOfConvergents(t *testing.T) {
	for _, numbers := range [][][]int64{{{4, 1}, {3, 3}, {1, 2, 1}}, {{4, 1}, {}, {3, 3}, {}, {}, {}}, {{}, {}, {}}, {{1}}, {{1}, {1}, {1}}, {}} {
		pureRows(t, "ConvergentsOf", numbers, func(quotients [][]int64) result {
			return convergentsResult(impl.ConvergentsOf(7, quotients))
		})
	}
	pure(t, "ConvergentsOf one quotient three times", func(g *guards) result {
		q := g.list(2, 1)
		return convergentsResult(impl.ConvergentsOf(7, [][]int64{q, q, q}))
	})
}

func TestFractionsUnchangedBesideErrors(t *testing.T) {
	g := &guards{}
	for _, c := range fractionCalls {
		c.call(7, g.list(1, 0), g.list(1), 1)
		c.call(4, g.list(1, 2), g.list(1, 3), 1)
		c.call(7, g.list(1, 2), g.list(0, 1), 25)
		c.call(7, g.list(1, 2), g.list(0, 1), 3)
		c.call(7, g.list(longest(7)...), g.list(longest(7)...), 24)
	}
	for _, c := range listCalls {
		c.call(7, g.list(1, 9))
		c.call(4, g.list(1, 2))
		c.call(7, g.list(0, 1))
		c.call(7, g.list(0, 1, 0))
	}
	impl.StepsOf(of(7, g.list(1, 0, 1)...))
	impl.StepsOf(of(7, g.list(1, 9)...))
	impl.MultiplySeries(7, g.list(1, 2), g.list(1, 2, 3))
	impl.PadeOf(7, g.list(1, 0, 1), 1, 1)
	if !g.unchanged() {
		t.Errorf("a function of continued fractions changed an argument")
	}
}

// TestFractionsSideBySide checks also that calls that panic inside do not disturb others.
func TestFractionsSideBySide(t *testing.T) {
	d := &dice{141}
	f, g, list := d.poly(101, 20), d.invertible(101, 24), d.nonzero(101, 24)
	m, j := of(101, slowMomentsOfSteps(101, list, 24)...), d.data(101, 12)
	calls := []func() result{
		func() result { return listResult(impl.StepsOf(m)) },
		func() result { return listResult(impl.StepsOf(of(101, 1, 0, 1))) },
		func() result { return listResult(impl.SeriesOfJacobi(j, 24)) },
	}
	for _, c := range fractionCalls {
		calls = append(calls, func() result { return c.call(101, f, g, 24) })
	}
	for _, c := range listCalls {
		calls = append(calls, func() result { return c.call(101, list) })
	}
	sameSideBySide(t, calls)
}

// TestNoGoroutinesAreLeft checks that none waits for a receiver that has gone.
func TestNoGoroutinesAreLeft(t *testing.T) {
	d := &dice{142}
	before := runtime.NumGoroutine()
	for range 200 {
		f, g, series := d.poly(7, 25), d.poly(7, 24), d.list(7, 24)
		impl.QuotientsOf(7, f, g)
		impl.QuotientsOf(7, nil, g)
		for a := range int64(24) {
			impl.PadeOf(7, series, a, 23-a)
		}
		impl.PadeOf(7, make([]int64, 24), 12, 11)
	}
	noneLeft(t, before)
}
