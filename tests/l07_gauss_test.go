package tests

import (
	"fmt"
	"slices"
	"testing"

	"loop.example/g01283/impl"
)

// smallData are sizes for which all data with one number as Beta[0] are tried.
var smallData = []struct {
	p int64
	n int
	b int64
}{{2, 5, 1}, {3, 3, 2}, {5, 2, 3}, {7, 2, 4}, {11, 2, 10}}

// checkGauss checks the Gauss rule of data, what is told at each of some numbers, and the promise that
// it has the moments of the data. It reports whether there is a Gauss rule.
func checkGauss(t *testing.T, j impl.Jacobi, numbers []int64) bool {
	t.Helper()
	p, n := j.Prime, int64(len(j.Alpha))
	r, code := impl.GaussRule(j)
	want, ok := slowGauss(j)
	if ok {
		isRule(t, fmt.Sprintf("GaussRule %v", j), ruleResult(r, code), want)
		m, _ := impl.MomentsOfJacobi(j, 2*n)
		moments(t, fmt.Sprintf("GaussRule %v, its moments", j), momentsResult(impl.MomentsOfRule(r, 2*n)), p, m.List...)
		num(t, fmt.Sprintf("GaussRule %v, its degree", j), numResult(impl.DegreeOfRule(m, r)), 2*n-1)
		isRule(t, "WeightsFor the roots", ruleResult(impl.WeightsFor(m, r.Nodes)), r)
		if !impl.IsRule(r) || slices.Contains(r.Weights, 0) {
			t.Errorf("GaussRule %v = %v", j, r)
		}
	} else {
		fails(t, fmt.Sprintf("GaussRule %v", j), ruleResult(r, code), impl.ErrNotFound)
	}
	for _, a := range slices.Concat(numbers, r.Nodes) {
		name, weight := fmt.Sprintf("ChristoffelAt %v and %d", j, a), numResult(impl.ChristoffelAt(j, a))
		if want, ok := slowChristoffel(j, a); ok {
			num(t, name, weight, want)
		} else {
			fails(t, name, weight, impl.ErrState)
		}
		if i := slices.Index(r.Nodes, a); i >= 0 {
			num(t, name, weight, r.Weights[i])
		}
	}
	return ok
}

func TestGaussRuleOfAll(t *testing.T) {
	for _, c := range smallData {
		for n := 1; n <= c.n; n++ {
			found, none := 0, 0
			for _, j := range allData(c.p, n, c.b) {
				if checkGauss(t, j, firstNodes(int(c.p))) {
					found++
				} else {
					none++
				}
			}
			if found == 0 && int64(n) < c.p || none == 0 && n > 1 {
				t.Errorf("of all data for %d with %d numbers %d have Gauss rules, and %d have none", c.p, n, found, none)
			}
		}
	}
}

func TestGaussRuleOfSome(t *testing.T) {
	d := &dice{211}
	for _, p := range somePrimes {
		for i, j := range someData(d, p) {
			// The definitions take their time for great primes.
			if p < 1000 || i%5 == int(p%5) {
				checkGauss(t, j, []int64{0, 1, p - 1, d.below(p)})
			}
		}
	}
}

// TestRulesAreGaussRules checks that data of the moments of n nodes, if they are regular, have the
// rule of these nodes.
func TestRulesAreGaussRules(t *testing.T) {
	d := &dice{212}
	for _, p := range []int64{7, 11, 29, 97, 101, 9973, 10007} {
		for n := 1; n <= int(min(p/2, impl.MaxRows)); n++ {
			found := false
			for range 20 {
				r, j, ok := d.gaussian(p, n)
				if !ok {
					continue
				}
				found = true
				isRule(t, fmt.Sprintf("GaussRule %v", j), ruleResult(impl.GaussRule(j)), r)
				for i, x := range r.Nodes {
					num(t, fmt.Sprintf("ChristoffelAt %v and %d", j, x), numResult(impl.ChristoffelAt(j, x)), r.Weights[i])
				}
				poly, _ := impl.PolyOf(j, int64(n))
				lists(t, "NodePoly of a Gauss rule", listResult(impl.NodePoly(r)), poly)
			}
			if !found {
				t.Errorf("no moments of %d nodes for %d were regular", n, p)
			}
		}
	}
}

func TestGaussRule(t *testing.T) {
	ones := []int64{1, 1}
	isRule(t, "GaussRule", ruleResult(impl.GaussRule(data(7, []int64{0, 0}, ones))), rule(7, []int64{1, 6}, []int64{4, 4}))
	isRule(t, "GaussRule of one number", ruleResult(impl.GaussRule(data(7, []int64{3}, []int64{5}))), rule(7, []int64{3}, []int64{5}))
	isRule(t, "GaussRule, three times Beta[0]", ruleResult(impl.GaussRule(data(7, []int64{0, 0}, []int64{3, 1}))), rule(7, []int64{1, 6}, []int64{5, 5}))
	isRule(t, "GaussRule with the node 0", ruleResult(impl.GaussRule(data(7, []int64{1, 1}, ones))), rule(7, []int64{0, 2}, []int64{4, 4}))
	fails(t, "GaussRule, no roots", ruleResult(impl.GaussRule(data(7, []int64{0, 0}, []int64{1, 3}))), impl.ErrNotFound)
	// P(2) is x^2 - 2 x + 1.
	fails(t, "GaussRule, one root twice", ruleResult(impl.GaussRule(data(7, []int64{0, 2}, []int64{1, 6}))), impl.ErrNotFound)
	fails(t, "ChristoffelAt a root that comes twice", numResult(impl.ChristoffelAt(data(7, []int64{0, 2}, []int64{1, 6}), 1)), impl.ErrState)
	num(t, "ChristoffelAt", numResult(impl.ChristoffelAt(data(7, []int64{0, 0}, ones), 6)), 4)
	num(t, "ChristoffelAt of one number", numResult(impl.ChristoffelAt(data(7, []int64{3}, []int64{5}), 3)), 5)
	fails(t, "ChristoffelAt no root", numResult(impl.ChristoffelAt(data(7, []int64{0, 0}, ones), 2)), impl.ErrState)
	fails(t, "ChristoffelAt no root of one number", numResult(impl.ChristoffelAt(data(7, []int64{3}, []int64{5}), 0)), impl.ErrState)
}

// TestChristoffelWithoutGauss checks that there are weights at single roots, though others are
// missing or come twice.
func TestChristoffelWithoutGauss(t *testing.T) {
	told, refused := 0, 0
	for _, j := range allData(5, 3, 2) {
		if _, code := impl.GaussRule(j); code == impl.ErrNone {
			continue
		}
		for a := range int64(5) {
			weight := numResult(impl.ChristoffelAt(j, a))
			if want, ok := slowChristoffel(j, a); ok {
				num(t, fmt.Sprintf("ChristoffelAt %v and %d", j, a), weight, want)
				told++
			} else {
				fails(t, fmt.Sprintf("ChristoffelAt %v and %d", j, a), weight, impl.ErrState)
				if slowValue(5, slowPoly(j, 3), a) == 0 {
					refused++
				}
			}
		}
	}
	if told == 0 || refused == 0 {
		t.Errorf("%d weights without a Gauss rule, and %d roots without a weight", told, refused)
	}
}

// checkRadau checks the Radau data, and that they keep all moments but the last one of the data.
func checkRadau(t *testing.T, j impl.Jacobi, c int64) {
	t.Helper()
	name, n := fmt.Sprintf("RadauJacobi %v and %d", j, c), int64(len(j.Alpha))
	radau, code := impl.RadauJacobi(j, c)
	want, ok := slowRadau(j, c)
	if !ok {
		fails(t, name, jacobiResult(radau, code), impl.ErrState)
		return
	}
	isData(t, name, jacobiResult(radau, code), want)
	num(t, name+", P(n) at c", numResult(impl.ValueOf(radau, n, c)), 0)
	m, _ := impl.MomentsOfJacobi(j, 2*n-1)
	moments(t, name+", its moments", momentsResult(impl.MomentsOfJacobi(radau, 2*n-1)), j.Prime, m.List...)
	isData(t, name+" twice", jacobiResult(impl.RadauJacobi(radau, c)), radau)
	if r, code := impl.GaussRule(radau); code == impl.ErrNone {
		if degree, _ := impl.DegreeOfRule(m, r); degree != 2*n-2 || !slices.Contains(r.Nodes, c) {
			t.Errorf("%s has the rule %v of the degree %d", name, r, degree)
		}
	}
}

func TestRadauJacobi(t *testing.T) {
	d := &dice{213}
	for _, p := range somePrimes {
		for i, j := range someData(d, p) {
			if p < 1000 || i%5 == int(p%5) {
				for _, c := range []int64{0, 1, p - 1, d.below(p)} {
					checkRadau(t, j, c)
				}
			}
		}
	}
	for _, c := range smallData {
		for n := 1; n <= c.n; n++ {
			for _, j := range allData(c.p, n, c.b) {
				for x := range c.p {
					checkRadau(t, j, x)
				}
			}
		}
	}
	j := data(7, []int64{0, 0}, []int64{1, 1})
	isData(t, "RadauJacobi", jacobiResult(impl.RadauJacobi(j, 2)), data(7, []int64{0, 5}, []int64{1, 1}))
	fails(t, "RadauJacobi, P(n - 1) being 0", jacobiResult(impl.RadauJacobi(j, 0)), impl.ErrState)
	isData(t, "RadauJacobi of one number", jacobiResult(impl.RadauJacobi(data(7, []int64{3}, []int64{5}), 0)), data(7, []int64{0}, []int64{5}))
	isData(t, "RadauJacobi of one number", jacobiResult(impl.RadauJacobi(data(7, []int64{3}, []int64{5}), 6)), data(7, []int64{6}, []int64{5}))
	isData(t, "RadauJacobi, P(n) being 0 already", jacobiResult(impl.RadauJacobi(j, 6)), j)
}
