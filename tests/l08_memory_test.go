package tests

import (
	"testing"

	"loop.example/g01283/impl"
)

// guarded returns copies of arguments that are guarded.
func (x changeArguments) guarded(g *guards) changeArguments {
	y := x
	y.m.List = g.list(x.m.List...)
	y.j.Alpha, y.j.Beta = g.list(x.j.Alpha...), g.list(x.j.Beta...)
	return y
}

// changeable are arguments that all functions take: the moments and data are symmetric, and there are
// steps by a, b of them, and back with b.
var changeable = []changeArguments{
	{of(7, 1, 0, 2, 0), data(7, make([]int64, 3), []int64{3, 5, 5}), 6, 2},
	{of(7, 3, 0, 2, 0, 5), data(7, make([]int64, 2), []int64{4, 2}), 3, 1},
	{of(7, 1, 0), data(7, make([]int64, 5), []int64{4, 4, 3, 1, 5}), 4, 2},
	{of(101, 1, 0, 2, 0, 5, 0, 14, 0, 42, 0, 31, 0), data(101, make([]int64, 12), []int64{46, 12, 23, 5, 69, 28, 48, 96, 93, 44, 83, 12}), 44, 2},
}

func TestMemoryOfChanges(t *testing.T) {
	for _, c := range changeCalls {
		for _, x := range changeable {
			pure(t, c.name, func(g *guards) result { return c.call(x.guarded(g)) })
		}
	}
	x := changeable[0]
	pure(t, "StepsOfJacobi, none", func(g *guards) result { return jacobisResult(impl.StepsOfJacobi(x.guarded(g).j, 6, 0)) })
	pure(t, "AddMass of 0", func(g *guards) result { return momentsResult(impl.AddMass(x.guarded(g).m, 0, 0)) })
	pure(t, "MultiplyMoments by 0", func(g *guards) result { return momentsResult(impl.MultiplyMoments(x.guarded(g).m, 0)) })
	pure(t, "DivideMoments by 0", func(g *guards) result { return momentsResult(impl.DivideMoments(x.guarded(g).m, 0, 0)) })
	pure(t, "DoubleMoments, one of them", func(g *guards) result { return momentsResult(impl.DoubleMoments(of(7, g.list(3)...))) })
	pure(t, "HalveMoments, one of them", func(g *guards) result { return momentsResult(impl.HalveMoments(of(7, g.list(3)...))) })
	pure(t, "StepBack of one number", func(g *guards) result {
		return jacobiResult(impl.StepBack(data(7, g.list(3), g.list(4)), 2, 1))
	})
	// One list as Alpha and Beta.
	pure(t, "ScaleJacobi of one list twice", func(g *guards) result {
		list := g.list(1, 2, 3)
		return jacobiResult(impl.ScaleJacobi(data(7, list, list), 5))
	})
	pure(t, "StepBack of one list twice", func(g *guards) result {
		list := g.list(1, 2, 3)
		return jacobiResult(impl.StepBack(data(7, list, list), 5, 1))
	})
	pure(t, "StepsOfJacobi of one list twice", func(g *guards) result {
		list := g.list(1, 2, 3)
		return jacobisResult(impl.StepsOfJacobi(data(7, list, list), 5, 2))
	})
}

func TestChangesUnchangedBesideErrors(t *testing.T) {
	g := &guards{}
	for _, c := range changeCalls {
		for _, p := range []int64{4, 7} {
			for _, x := range append(laterChanges(7), changeable...) {
				x.m.Prime, x.j.Prime = p, p
				c.call(x.guarded(g))
				x.a, x.b = 9, 9
				c.call(x.guarded(g))
				x.a, x.b = 1, 12
				c.call(x.guarded(g))
			}
		}
	}
	if !g.unchanged() {
		t.Errorf("a function of changes changed an argument")
	}
}

func TestChangesSideBySide(t *testing.T) {
	x := changeable[3]
	var calls []func() result
	for _, c := range changeCalls {
		calls = append(calls, func() result { return c.call(x) })
	}
	sameSideBySide(t, calls)
}
