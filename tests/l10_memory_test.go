package tests

import (
	"fmt"
	"testing"

	"loop.example/g01283/impl"
)

// guarded returns copies of arguments that are guarded.
func (x linearArguments) guarded(g *guards) linearArguments {
	y := x
	y.j.Alpha, y.j.Beta = g.list(x.j.Alpha...), g.list(x.j.Beta...)
	y.q.Alpha, y.q.Beta = g.list(x.q.Alpha...), g.list(x.q.Beta...)
	y.f = g.list(x.f...)
	for i, list := range x.lists {
		y.lists[i] = g.list(list...)
	}
	return y
}

// expandable are arguments that all functions take.
func expandable() []linearArguments {
	d := &dice{331}
	small, great := data(7, []int64{3}, []int64{4}), d.data(101, 12)
	return []linearArguments{
		{sample(), hermite3(), []int64{3, 2, 1}, [2][]int64{{1, 2, 3}, {4, 5}}, [2]int64{1, 2}},
		{sample(), sample(), nil, [2][]int64{nil, {4, 5}}, [2]int64{0, 3}},
		{hermite3(), sample(), []int64{0, 0, 0, 1}, [2][]int64{{0, 0, 1}, nil}, [2]int64{2, 1}},
		{small, small, []int64{5}, [2][]int64{{6}, {1}}, [2]int64{1, 0}},
		{great, d.data(101, 12), d.poly(101, 13), [2][]int64{d.poly(101, 12), d.list(101, 12)}, [2]int64{7, 5}},
	}
}

func TestMemoryOfExpansions(t *testing.T) {
	for _, c := range linearCalls {
		for _, x := range expandable() {
			pure(t, c.name, func(g *guards) result { return c.call(x.guarded(g)) })
		}
		// One list in the place of all.
		pure(t, c.name+" of one list", func(g *guards) result {
			list := g.list(1, 2, 3)
			j := data(7, list, list)
			return c.call(linearArguments{j, j, list, [2][]int64{list, list}, [2]int64{1, 1}})
		})
	}
	pure(t, "SumBy of N + 1 numbers", func(g *guards) result {
		return listResult(impl.SumBy(linearArguments{j: sample()}.guarded(g).j, g.list(1, 2, 3, 0)))
	})
	for _, name := range familyNames {
		for n := int64(1); n <= 12; n++ {
			pure(t, fmt.Sprintf("NamedJacobi %q of %d", name, n), func(g *guards) result { return jacobiResult(impl.NamedJacobi(name, 101, n)) })
		}
	}
}

func TestExpansionsUnchangedBesideErrors(t *testing.T) {
	g := &guards{}
	for _, c := range linearCalls {
		for _, p := range []int64{4, 5, 7, 101} {
			for _, x := range append(expandable(), wrongLater()...) {
				if x.lists[0] != nil && len(x.lists[0]) > 1000 {
					continue
				}
				x.j.Prime = p
				c.call(x.guarded(g))
				x.q.Prime = p
				c.call(x.guarded(g))
				x.numbers = [2]int64{9, 9}
				c.call(x.guarded(g))
			}
		}
	}
	if !g.unchanged() {
		t.Errorf("a function of expansions changed an argument")
	}
}

func TestExpansionsSideBySide(t *testing.T) {
	var calls []func() result
	for _, c := range linearCalls {
		for _, x := range expandable() {
			calls = append(calls, func() result { return c.call(x) })
		}
	}
	for _, name := range familyNames {
		calls = append(calls, func() result { return jacobiResult(impl.NamedJacobi(name, 101, 12)) })
	}
	sameSideBySide(t, calls)
}
