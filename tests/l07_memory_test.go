package tests

import (
	"runtime"
	"slices"
	"testing"

	"loop.example/g01283/impl"
)

// guarded returns copies of arguments that are guarded.
func (x ruleArguments) guarded(g *guards) ruleArguments {
	y := x
	y.m.List, y.f = g.list(x.m.List...), g.list(x.f...)
	y.j.Alpha, y.j.Beta = g.list(x.j.Alpha...), g.list(x.j.Beta...)
	y.r.Nodes, y.r.Weights = g.list(x.r.Nodes...), g.list(x.r.Weights...)
	y.s.Nodes, y.s.Weights = g.list(x.s.Nodes...), g.list(x.s.Weights...)
	return y
}

// memorable are arguments modulo 7 that all functions take; the numbers are roots of P(n) that come
// once, and P(n - 1) is not 0 there.
var memorable = []ruleArguments{
	{of(7, 1, 0, 1, 0), data(7, []int64{0, 0}, []int64{1, 1}), rule(7, []int64{1, 6}, []int64{4, 4}), rule(7, []int64{3, 6}, []int64{1, 1}), []int64{1, 3, 6}, 1, 3},
	{of(7, 1, 0, 1, 0), data(7, []int64{0, 0}, []int64{1, 1}), rule(7, []int64{2, 3, 4}, []int64{0, 4, 0}), rule(7, []int64{3, 6}, []int64{3, 1}), []int64{0, 5}, 6, 0},
	{of(7, 2, 3, 4), data(7, []int64{3}, []int64{5}), rule(7, firstNodes(7), []int64{1, 2, 3, 0, 5, 6, 0}), rule(7, []int64{0}, []int64{0}), []int64{1}, 3, 1},
	{of(7, 5, 5), data(7, []int64{1}, []int64{1}), rule(7, []int64{5}, []int64{2}), rule(7, nil, nil), nil, 1, 0},
	{of(7, 5), data(7, []int64{1}, []int64{1}), rule(7, nil, nil), rule(7, []int64{4}, []int64{6}), nil, 1, 0},
}

func TestMemoryOfRules(t *testing.T) {
	for _, c := range ruleCalls {
		for _, x := range memorable {
			pure(t, c.name, func(g *guards) result { return c.call(x.guarded(g)) })
		}
		pure(t, c.name+" of one list everywhere", func(g *guards) result {
			list := g.list(1, 2, 3)
			r := rule(7, list, list)
			return c.call(ruleArguments{of(7, list...), data(7, list[:1], list[:1]), r, r, list, 1, 1})
		})
	}
	x := memorable[0]
	pure(t, "MoveRule by x", func(g *guards) result { return ruleResult(impl.MoveRule(x.guarded(g).r, 1, 0)) })
	pure(t, "MergeRules, 0 times the second one", func(g *guards) result {
		y := x.guarded(g)
		return ruleResult(impl.MergeRules(y.r, y.s, 0))
	})
	for _, n := range []int64{1, 2, 24} {
		pure(t, "MomentsOfRule", func(g *guards) result { return momentsResult(impl.MomentsOfRule(x.guarded(g).r, n)) })
	}
	full := ruleArguments{r: (&dice{231}).rule(101, 24), s: (&dice{231}).rule(101, 24), m: (&dice{232}).moments(101, 24)}
	pure(t, "MergeRules of 24 nodes", func(g *guards) result {
		y := full.guarded(g)
		return ruleResult(impl.MergeRules(y.r, y.s, 5))
	})
	pure(t, "WeightsFor 24 nodes", func(g *guards) result {
		y := full.guarded(g)
		return ruleResult(impl.WeightsFor(y.m, y.r.Nodes))
	})
}

func TestRulesUnchangedBesideErrors(t *testing.T) {
	g := &guards{}
	for _, c := range ruleCalls {
		for _, x := range memorable {
			x.a, x.b = 9, 9
			c.call(x.guarded(g))
			x.m.Prime, x.s.Prime = 13, 13
			c.call(x.guarded(g))
			x.r.Prime, x.j.Prime = 4, 4
			c.call(x.guarded(g))
		}
		x := memorable[0]
		x.j, x.f, x.a = data(7, []int64{0, 0}, []int64{1, 3}), longest(7), 0
		c.call(x.guarded(g))
		x.r.Nodes, x.s.Nodes, x.f = []int64{6, 1}, []int64{3, 3}, []int64{6, 1, 0}
		c.call(x.guarded(g))
		x.r, x.s = tooManyNodes(101)
		c.call(x.guarded(g))
		impl.IsRule(x.guarded(g).r)
	}
	if !g.unchanged() {
		t.Errorf("a function of rules changed an argument")
	}
}

func TestRulesSideBySide(t *testing.T) {
	d := &dice{233}
	r, j, ok := d.gaussian(101, 12)
	for !ok {
		r, j, ok = d.gaussian(101, 12)
	}
	x := ruleArguments{d.moments(101, 24), j, r, d.rule(101, 12), d.ascending(101, 20), r.Nodes[0], 5}
	if x.a == 0 {
		x.a = r.Nodes[1]
	}
	var calls []func() result
	for _, c := range ruleCalls {
		calls = append(calls, func() result { return c.call(x) })
	}
	sameSideBySide(t, calls)
}

// TestSumsAreJoined checks that no goroutine goes on, or reads a rule, behind the call.
func TestSumsAreJoined(t *testing.T) {
	before := runtime.NumGoroutine()
	given := (&dice{234}).rule(10007, 24)
	m := of(10007, slowMomentsOfNodes(10007, given.Nodes, given.Weights, 24)...)
	for range 100 {
		r := rule(10007, slices.Clone(given.Nodes), slices.Clone(given.Weights))
		num(t, "SumOf", numResult(impl.SumOf(r, ofDegree(23))), m.List[23])
		num(t, "ErrorOf", numResult(impl.ErrorOf(m, r, ofDegree(23))), 0)
		num(t, "DegreeOfRule", numResult(impl.DegreeOfRule(m, r)), 23)
		moments(t, "MomentsOfRule", momentsResult(impl.MomentsOfRule(r, 24)), 10007, m.List...)
		overwrite(r.Nodes)
		overwrite(r.Weights)
	}
	noneLeft(t, before)
}
