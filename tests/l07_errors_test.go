package tests

import (
	"fmt"
	"math"
	"slices"
	"testing"

	"loop.example/g01283/impl"
)

// ruleArguments are what functions of chapter 7 take, as far as they do.
type ruleArguments struct {
	m    impl.Moments
	j    impl.Jacobi
	r, s impl.Rule
	f    []int64
	a, b int64
}

// ruleCall is a function of chapter 7. It takes a rule, unless it takes data or a list of nodes, and
// perhaps moments, data, a second rule, a polynomial, and up to two numbers, a and b; its ranges are
// their limits for the prime p.
type ruleCall struct {
	name                                string
	rule, moments, jacobi, second, poly bool
	ranges                              func(p int64) [][2]int64
	call                                func(x ruleArguments) result
}

func modulo1(p int64) [][2]int64 { return [][2]int64{{0, p - 1}} }

var ruleCalls = []ruleCall{
	{"WeightsFor", false, true, false, false, false, noRanges, func(x ruleArguments) result {
		return ruleResult(impl.WeightsFor(x.m, x.f))
	}},
	{"SumOf", true, false, false, false, true, noRanges, func(x ruleArguments) result { return numResult(impl.SumOf(x.r, x.f)) }},
	{"ErrorOf", true, true, false, false, true, noRanges, func(x ruleArguments) result {
		return numResult(impl.ErrorOf(x.m, x.r, x.f))
	}},
	{"DegreeOfRule", true, true, false, false, false, noRanges, func(x ruleArguments) result {
		return numResult(impl.DegreeOfRule(x.m, x.r))
	}},
	{"GaussRule", false, false, true, false, false, noRanges, func(x ruleArguments) result { return ruleResult(impl.GaussRule(x.j)) }},
	{"RadauJacobi", false, false, true, false, false, modulo1, func(x ruleArguments) result {
		return jacobiResult(impl.RadauJacobi(x.j, x.a))
	}},
	{"MoveRule", true, false, false, false, false, func(p int64) [][2]int64 { return [][2]int64{{1, p - 1}, {0, p - 1}} }, func(x ruleArguments) result {
		return ruleResult(impl.MoveRule(x.r, x.a, x.b))
	}},
	{"MergeRules", true, false, false, true, false, modulo1, func(x ruleArguments) result {
		return ruleResult(impl.MergeRules(x.r, x.s, x.a))
	}},
	{"WithoutRests", true, false, false, false, false, noRanges, func(x ruleArguments) result {
		return ruleResult(impl.WithoutRests(x.r))
	}},
	{"MomentsOfRule", true, false, false, false, false, func(p int64) [][2]int64 { return [][2]int64{{1, 24}} }, func(x ruleArguments) result {
		return momentsResult(impl.MomentsOfRule(x.r, x.a))
	}},
	{"NodePoly", true, false, false, false, false, noRanges, func(x ruleArguments) result { return listResult(impl.NodePoly(x.r)) }},
	{"ChristoffelAt", false, false, true, false, false, modulo1, func(x ruleArguments) result {
		return numResult(impl.ChristoffelAt(x.j, x.a))
	}},
}

// goodArguments are taken by all functions: the data have P(1) = x - 1 and the Gauss rule of the node
// 1.
func goodArguments(p int64) ruleArguments {
	return ruleArguments{
		of(p, 1, 0, 1), data(p, []int64{1}, []int64{p - 1}),
		rule(p, []int64{0, 1}, []int64{1, p - 1}), rule(p, []int64{1}, []int64{1}), []int64{0, 1}, 1, 0,
	}
}

// laterArguments have other things wrong, the codes for which come later than ErrInvalid: numbers out
// of their ranges, lists that are too long, and other primes.
func laterArguments(p int64) []ruleArguments {
	all := []ruleArguments{goodArguments(p)}
	for _, a := range extremes {
		x := goodArguments(p)
		x.a, x.b = a, a
		all = append(all, x)
	}
	long, other := goodArguments(p), goodArguments(p)
	long.f = longest(p)
	other.m.Prime, other.s = 13, goodArguments(13).s
	return append(all, long, other)
}

func TestGoodArgumentsOfRules(t *testing.T) {
	for _, p := range somePrimes {
		for _, c := range ruleCalls {
			if r := c.call(goodArguments(p)); r.code != impl.ErrNone && c.name != "ChristoffelAt" {
				t.Errorf("%s for %d: code %d", c.name, p, r.code)
			}
		}
		fails(t, "ChristoffelAt a root", numResult(impl.ChristoffelAt(goodArguments(p).j, 0)), impl.ErrState)
		num(t, "ChristoffelAt a root", numResult(impl.ChristoffelAt(goodArguments(p).j, 1)), p-1)
	}
}

// TestNoRulesComeFirst puts something that is none in each place where a function takes it.
func TestNoRulesComeFirst(t *testing.T) {
	rules, moments, jacobis := badRules(), badMoments(), badData()
	for _, c := range ruleCalls {
		for _, x := range laterArguments(7) {
			name := c.name + " of "
			if c.rule {
				for _, bad := range rules {
					y := x
					y.r = bad
					fails(t, name+"no rule", c.call(y), impl.ErrInvalid)
				}
			}
			if c.second {
				for _, bad := range rules {
					y := x
					y.s = bad
					fails(t, name+"no second rule", c.call(y), impl.ErrInvalid)
				}
			}
			if c.moments {
				for _, bad := range moments {
					y := x
					y.m = bad
					fails(t, name+"no moments", c.call(y), impl.ErrInvalid)
				}
			}
			if c.jacobi {
				for _, bad := range jacobis {
					y := x
					y.j = bad
					fails(t, name+"no data", c.call(y), impl.ErrInvalid)
				}
			}
		}
	}
}

func TestNoPolynomialsOfRules(t *testing.T) {
	for _, p := range []int64{2, 7, 10007} {
		for _, bad := range badPolys(p) {
			for _, c := range ruleCalls {
				if !c.poly {
					continue
				}
				for _, x := range laterArguments(p) {
					// The polynomial is for the prime of the moments, if there are moments.
					if c.moments && x.m.Prime != p && impl.IsPoly(x.m.Prime, bad) {
						continue
					}
					x.f = bad
					fails(t, fmt.Sprintf("%s of no polynomial for %d", c.name, p), c.call(x), impl.ErrInvalid)
				}
			}
		}
	}
}

func TestNumbersOfRulesOutOfRange(t *testing.T) {
	for _, c := range ruleCalls {
		for _, p := range somePrimes {
			for i, limits := range c.ranges(p) {
				checkRuleLimits(t, c, p, i, limits)
			}
		}
	}
}

// checkRuleLimits replaces one of good numbers by its limits, and by what is beyond them.
func checkRuleLimits(t *testing.T, c ruleCall, p int64, i int, limits [2]int64) {
	t.Helper()
	with := func(n int64) ruleArguments {
		x := goodArguments(p)
		if i == 0 {
			x.a = n
		} else {
			x.b = n
		}
		return x
	}
	for _, n := range limits {
		if r := c.call(with(n)); r.code != impl.ErrNone && c.name != "ChristoffelAt" {
			t.Errorf("%s with the number %d in %v: code %d", c.name, n, limits, r.code)
		}
	}
	for _, n := range append([]int64{limits[0] - 1, limits[1] + 1, limits[1] + 2, math.MinInt32}, extremes...) {
		x := with(n)
		name := fmt.Sprintf("%s with the number %d not in %v", c.name, n, limits)
		fails(t, name, c.call(x), impl.ErrRange)
		// P(n - 1) of 0 at c, no root, and too many nodes come later.
		x.j = data(p, []int64{0, 0}, []int64{1, 1})
		fails(t, name, c.call(x), impl.ErrRange)
		if p > 48 {
			x.r, x.s = tooManyNodes(p)
			fails(t, name, c.call(x), impl.ErrRange)
		}
	}
}

// tooManyNodes returns two rules with 25 nodes together.
func tooManyNodes(p int64) (impl.Rule, impl.Rule) {
	return rule(p, firstNodes(24), make([]int64, 24)), rule(p, []int64{0, 24}, []int64{0, 0})
}

func TestOtherPrimesOfRules(t *testing.T) {
	for _, p := range somePrimes {
		for _, q := range somePrimes {
			if p == q {
				continue
			}
			x := goodArguments(p)
			x.m, x.s, x.f = goodArguments(q).m, goodArguments(q).s, nil
			for _, f := range [][]int64{nil, {1}, {0, 1}, ofDegree(24)} {
				x.f = f
				for _, c := range ruleCalls {
					if c.rule && c.moments || c.second {
						fails(t, fmt.Sprintf("%s for %d and %d", c.name, p, q), c.call(x), impl.ErrRange)
					}
				}
			}
			fails(t, "ErrorOf for other primes and no nodes", numResult(impl.ErrorOf(x.m, rule(p, nil, nil), nil)), impl.ErrRange)
			fails(t, "DegreeOfRule for other primes and no nodes", numResult(impl.DegreeOfRule(x.m, rule(p, nil, nil))), impl.ErrRange)
			fails(t, "MergeRules for other primes and no nodes", ruleResult(impl.MergeRules(rule(p, nil, nil), rule(q, nil, nil), 0)), impl.ErrRange)
		}
	}
	// The polynomial has to be one for the prime of the moments, and need not be one for that of the
	// rule.
	fails(t, "ErrorOf a polynomial for the moments", numResult(impl.ErrorOf(of(7, 1, 1), rule(5, nil, nil), []int64{6, 6})), impl.ErrRange)
	fails(t, "ErrorOf a polynomial for the rule", numResult(impl.ErrorOf(of(5, 1, 1), rule(7, nil, nil), []int64{6, 6})), impl.ErrInvalid)
	// Too many nodes come later.
	r, _ := tooManyNodes(101)
	_, s := tooManyNodes(97)
	fails(t, "MergeRules of 25 nodes for other primes", ruleResult(impl.MergeRules(r, s, 1)), impl.ErrRange)
}

func TestWeightsForNoNodes(t *testing.T) {
	for _, p := range somePrimes {
		for _, m := range []impl.Moments{of(p, 1), of(p, make([]int64, 24)...)} {
			for _, nodes := range badNodes(p) {
				fails(t, fmt.Sprintf("WeightsFor for %d", p), ruleResult(impl.WeightsFor(m, nodes)), impl.ErrRange)
			}
		}
		for n := 1; n <= mostNodes(p); n++ {
			nodes := firstNodes(n)
			isRule(t, "WeightsFor as many nodes as moments", ruleResult(impl.WeightsFor(of(p, make([]int64, n)...), nodes)), rule(p, nodes, make([]int64, n)))
			if n > 1 {
				fails(t, "WeightsFor one node more than moments", ruleResult(impl.WeightsFor(of(p, make([]int64, n-1)...), nodes)), impl.ErrRange)
			}
		}
	}
	fails(t, "WeightsFor 25 nodes", ruleResult(impl.WeightsFor(of(101, make([]int64, 24)...), firstNodes(25))), impl.ErrRange)
	fails(t, "WeightsFor descending nodes", ruleResult(impl.WeightsFor(of(7, 1, 0), []int64{6, 1})), impl.ErrRange)
	fails(t, "WeightsFor one node twice", ruleResult(impl.WeightsFor(of(7, 1, 0), []int64{1, 1})), impl.ErrRange)
}

// TestAnyRules calls all functions with all arguments of a grid: none panics, and beside an error
// nothing is returned.
func TestAnyRules(t *testing.T) {
	d := &dice{221}
	var all []ruleArguments
	for _, p := range []int64{2, 7, 10007} {
		all = append(all, laterArguments(p)...)
		all = append(all, ruleArguments{d.moments(p, 24), d.data(p, 12), d.rule(p, mostNodes(p)), d.rule(p, mostNodes(p)/2), longest(p), p - 1, p - 1})
	}
	rules, someMoments, jacobis := badRules(), badMoments(), badData()
	someLists := append(append(badPolys(7), badNodes(7)...), nil, []int64{1}, []int64{0, 1}, longest(2), longest(7), ofDegree(24))
	numbers := append([]int64{0, 1, 2, 6, 7, 23, 24, 25, 10006, 10007}, extremes...)
	for _, x := range slices.Clone(all) {
		for i := range 400 {
			y := x
			if i%2 == 0 {
				y.r = rules[d.below(int64(len(rules)))]
			}
			if i%3 == 0 {
				y.s = rules[d.below(int64(len(rules)))]
			}
			if i%4 == 0 {
				y.m = someMoments[d.below(int64(len(someMoments)))]
				y.j = jacobis[d.below(int64(len(jacobis)))]
			}
			y.f = someLists[i%len(someLists)]
			y.a, y.b = numbers[d.below(int64(len(numbers)))], numbers[d.below(int64(len(numbers)))]
			all = append(all, y)
		}
	}
	for _, x := range all {
		impl.IsRule(x.r)
		for _, c := range ruleCalls {
			sound(t, c.name, c.call(x))
		}
	}
}
