package tests

import (
	"math"
	"slices"
	"testing"

	"loop.example/g01283/impl"
)

// Rules by their definitions, to check those of the package against.

func ruleResult(r impl.Rule, code int64) result {
	return result{lists: [][]int64{r.Nodes, r.Weights}, num: r.Prime, code: code}
}

func rule(p int64, nodes, weights []int64) impl.Rule {
	return impl.Rule{Prime: p, Nodes: nodes, Weights: weights}
}

// isRule checks that a call returned this rule and ErrNone.
func isRule(t *testing.T, name string, r result, want impl.Rule) {
	t.Helper()
	if !r.equals(ruleResult(want, impl.ErrNone)) {
		t.Errorf("%s = %d, %v, code %d, want %v", name, r.num, r.lists, r.code, want)
	}
}

// slowRule returns the rule that has weights at some numbers, ascending, whatever they are.
func slowRule(p int64, weights map[int64]int64) impl.Rule {
	r := impl.Rule{Prime: p}
	for x := range p {
		if w, ok := weights[x]; ok {
			r.Nodes, r.Weights = append(r.Nodes, x), append(r.Weights, modulo(p, w))
		}
	}
	return r
}

// slowSumOf adds up the weights times the values.
func slowSumOf(r impl.Rule, f []int64) int64 {
	sum := int64(0)
	for i, x := range r.Nodes {
		sum = (sum + r.Weights[i]*slowValue(r.Prime, f, x)) % r.Prime
	}
	return sum
}

func slowErrorOf(m impl.Moments, r impl.Rule, f []int64) int64 {
	return modulo(m.Prime, slowFunctional(m, f)-slowSumOf(r, f))
}

func slowDegreeOfRule(m impl.Moments, r impl.Rule) int64 {
	d := -1
	for d+1 < len(m.List) && slowErrorOf(m, r, ofDegree(d+1)) == 0 {
		d++
	}
	return int64(d)
}

// slowWeights applies the functional to products that are 1 at one node, and 0 at all others.
func slowWeights(m impl.Moments, nodes []int64) []int64 {
	p := m.Prime
	weights := []int64{}
	for _, x := range nodes {
		others := slices.DeleteFunc(slices.Clone(nodes), func(y int64) bool { return y == x })
		f := productOfRoots(p, 1, others)
		weights = append(weights, slowFunctional(m, f)*slowInverse(p, slowValue(p, f, x))%p)
	}
	return weights
}

// slowChristoffel returns Beta[0] times the value of Q(n), divided by that of the derivative of P(n),
// and false if a is no root of P(n), or one of the derivative.
func slowChristoffel(j impl.Jacobi, a int64) (int64, bool) {
	p, n := j.Prime, len(j.Alpha)
	f := slowPoly(j, n)
	slope := slowValue(p, slowDerivative(p, f), a)
	if slowValue(p, f, a) != 0 || slope == 0 {
		return 0, false
	}
	return j.Beta[0] * slowValue(p, slowAssociated(j, n), a) % p * slowInverse(p, slope) % p, true
}

// slowGauss returns the Gauss rule, and false if there is none.
func slowGauss(j impl.Jacobi) (impl.Rule, bool) {
	roots := slowRoots(j.Prime, slowPoly(j, len(j.Alpha)))
	weights := map[int64]int64{}
	for _, x := range roots {
		weights[x], _ = slowChristoffel(j, x)
	}
	return slowRule(j.Prime, weights), len(roots) == len(j.Alpha)
}

// slowRadau tries all numbers as the last Alpha, and returns false if it is not one alone that makes
// P(n) 0 at c.
func slowRadau(j impl.Jacobi, c int64) (impl.Jacobi, bool) {
	p, n := j.Prime, len(j.Alpha)
	radau := data(p, slices.Clone(j.Alpha), slices.Clone(j.Beta))
	before, last := slowValue(p, slowPoly(j, n-2), c), slowValue(p, slowPoly(j, n-1), c)
	var found []int64
	for x := range p {
		if modulo(p, (c-x)*last-j.Beta[n-1]*before) == 0 {
			found = append(found, x)
		}
	}
	if len(found) != 1 {
		return impl.Jacobi{}, false
	}
	radau.Alpha[n-1] = found[0]
	return radau, true
}

func slowMoved(r impl.Rule, a, b int64) impl.Rule {
	weights := map[int64]int64{}
	for i, x := range r.Nodes {
		weights[(a*x+b)%r.Prime] = r.Weights[i]
	}
	return slowRule(r.Prime, weights)
}

func slowMerged(r, s impl.Rule, k int64) impl.Rule {
	weights := map[int64]int64{}
	for i, x := range r.Nodes {
		weights[x] += r.Weights[i]
	}
	for i, x := range s.Nodes {
		weights[x] += k * s.Weights[i]
	}
	return slowRule(r.Prime, weights)
}

func slowWithoutRests(r impl.Rule) impl.Rule {
	weights := map[int64]int64{}
	for i, x := range r.Nodes {
		if r.Weights[i] != 0 {
			weights[x] = r.Weights[i]
		}
	}
	return slowRule(r.Prime, weights)
}

// ascending returns n different numbers in 0..p - 1, ascending.
func (d *dice) ascending(p int64, n int) []int64 {
	list := d.different(p, n)
	slices.Sort(list)
	return list
}

// rule returns a rule of n nodes, about one of three weights being 0.
func (d *dice) rule(p int64, n int) impl.Rule {
	r := rule(p, d.ascending(p, n), d.list(p, n))
	for i := range r.Weights {
		if d.below(3) == 0 {
			r.Weights[i] = 0
		}
	}
	return r
}

// mostNodes returns how many nodes a rule for p has at most.
func mostNodes(p int64) int {
	return int(min(p, impl.MaxRule))
}

// firstNodes returns 0, 1, .., n - 1.
func firstNodes(n int) []int64 {
	list := make([]int64, n)
	for i := range list {
		list[i] = int64(i)
	}
	return list
}

// someRules returns rules of each number of nodes: at random, with the least nodes, and with the
// greatest nodes and weights.
func someRules(d *dice, p int64) []impl.Rule {
	var all []impl.Rule
	for n := range mostNodes(p) + 1 {
		greatest := firstNodes(n)
		for i := range greatest {
			greatest[i] += p - int64(n)
		}
		all = append(all, d.rule(p, n), d.rule(p, n), rule(p, firstNodes(n), d.list(p, n)))
		all = append(all, rule(p, greatest, slices.Repeat([]int64{p - 1}, n)))
	}
	return all
}

// allRules returns all rules for p.
func allRules(p int64) []impl.Rule {
	var all []impl.Rule
	// Each number has a weight, or is no node.
	for _, choices := range allLists(p+1, int(p)) {
		weights := map[int64]int64{}
		for x, w := range choices {
			if w < p {
				weights[int64(x)] = w
			}
		}
		all = append(all, slowRule(p, weights))
	}
	return all
}

// gaussian returns a rule of n nodes that is the Gauss rule of some data, and these data, or false if
// its moments at random are not regular.
func (d *dice) gaussian(p int64, n int) (impl.Rule, impl.Jacobi, bool) {
	r := rule(p, d.ascending(p, n), d.nonzero(p, n))
	m := of(p, slowMomentsOfNodes(p, r.Nodes, r.Weights, 2*n)...)
	j, code := impl.JacobiOfMoments(m, int64(n))
	return r, j, code == impl.ErrNone
}

// badNodes are no nodes for p for any reason.
func badNodes(p int64) [][]int64 {
	bad := [][]int64{{1, 0}, {0, 0}, {1, 1}, {0, 1, 1}, {0, 1, 0}, {1, 0, 2}, {p - 1, p - 2}, {p - 1, p - 1}, {0, p - 1, 0}, {p - 1, 0}}
	for _, x := range append([]int64{p, p + 1, math.MinInt32}, extremes...) {
		bad = append(bad, []int64{x}, []int64{0, x}, []int64{x, 0}, []int64{0, 1, x}, []int64{x, x}, []int64{x, p - 1})
	}
	return append(bad, make([]int64, 25), make([]int64, 100000), firstNodes(100000))
}

// badRules are none for any reason.
func badRules() []impl.Rule {
	bad := []impl.Rule{
		{}, {Nodes: []int64{0}, Weights: []int64{0}},
		rule(7, []int64{1}, nil), rule(7, nil, []int64{1}), rule(7, []int64{1, 2}, []int64{1}), rule(7, []int64{1}, []int64{1, 2}),
		rule(101, firstNodes(24), make([]int64, 23)), rule(101, firstNodes(24), make([]int64, 25)), rule(101, firstNodes(23), make([]int64, 24)),
		rule(101, firstNodes(25), make([]int64, 24)), rule(101, firstNodes(25), make([]int64, 25)), rule(10007, firstNodes(10007), make([]int64, 10007)),
		rule(7, make([]int64, 100000), make([]int64, 100000)), rule(2, []int64{0, 1, 2}, []int64{1, 1, 1}),
	}
	for _, p := range noPrimes {
		bad = append(bad, rule(p, nil, nil), rule(p, []int64{0}, []int64{0}), rule(p, []int64{0, 1}, []int64{1, 0}))
	}
	for _, p := range []int64{2, 7, 10007} {
		for _, nodes := range badNodes(p) {
			bad = append(bad, rule(p, nodes, make([]int64, len(nodes))), rule(p, nodes, slices.Repeat([]int64{1}, len(nodes))))
		}
		for _, x := range append([]int64{p, p + 1, math.MinInt32}, extremes...) {
			bad = append(bad, rule(p, []int64{0}, []int64{x}), rule(p, []int64{0, 1}, []int64{x, 1}), rule(p, []int64{0, 1}, []int64{0, x}))
		}
	}
	return bad
}
