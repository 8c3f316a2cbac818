package tests

import (
	"fmt"
	"slices"
	"testing"

	"loop.example/g01283/impl"
)

// someSizes are numbers of moments.
var someSizes = []int{1, 2, 3, 7, 12, 23, 24}

func TestLimitOfRules(t *testing.T) {
	if impl.MaxRule != 24 {
		t.Errorf("MaxRule = %d", impl.MaxRule)
	}
}

func TestIsRule(t *testing.T) {
	d := &dice{191}
	for _, p := range somePrimes {
		for _, r := range someRules(d, p) {
			if !impl.IsRule(r) {
				t.Errorf("IsRule(%v) = false", r)
			}
		}
		if !impl.IsRule(rule(p, nil, nil)) || !impl.IsRule(rule(p, []int64{}, nil)) || !impl.IsRule(rule(p, []int64{p - 1}, []int64{p - 1})) {
			t.Errorf("IsRule for %d with at most one node = false", p)
		}
	}
	for _, r := range badRules() {
		if impl.IsRule(r) {
			t.Errorf("IsRule(%d, %v, %v) = true", r.Prime, r.Nodes[:min(len(r.Nodes), 30)], r.Weights[:min(len(r.Weights), 30)])
		}
	}
}

// TestAllListsAsNodes checks that exactly the ascending lists of different numbers are nodes.
func TestAllListsAsNodes(t *testing.T) {
	for n := range 5 {
		for _, nodes := range allLists(5, n) {
			want := slices.Equal(slices.Compact(slices.Sorted(slices.Values(nodes))), nodes)
			if impl.IsRule(rule(5, nodes, make([]int64, n))) != want {
				t.Errorf("IsRule with the nodes %v = %v", nodes, !want)
			}
			r := ruleResult(impl.WeightsFor(of(5, 1, 2, 3, 4, 0), nodes))
			if want {
				isRule(t, "WeightsFor", r, rule(5, nodes, slowWeights(of(5, 1, 2, 3, 4, 0), nodes)))
			} else {
				fails(t, fmt.Sprintf("WeightsFor %v", nodes), r, impl.ErrRange)
			}
		}
	}
}

// TestWeightsFor checks also the promise that these weights make a rule exact.
func TestWeightsFor(t *testing.T) {
	d := &dice{192}
	for _, p := range somePrimes {
		for _, size := range someSizes {
			for n := range min(size, mostNodes(p)) + 1 {
				m, nodes := d.moments(p, size), d.ascending(p, n)
				name := fmt.Sprintf("WeightsFor %v and %v", m, nodes)
				r, code := impl.WeightsFor(m, nodes)
				isRule(t, name, ruleResult(r, code), rule(p, nodes, slowWeights(m, nodes)))
				if !impl.IsRule(r) {
					t.Errorf("%s is no rule", name)
				}
				for k := range n {
					num(t, name+", its error", numResult(impl.ErrorOf(m, r, ofDegree(k))), 0)
				}
				if n > 0 {
					f := d.poly(p, n)
					num(t, name+", its sum", numResult(impl.SumOf(r, f)), slowFunctional(m, f))
				}
				if degree, _ := impl.DegreeOfRule(m, r); degree < int64(n)-1 {
					t.Errorf("%s has the degree %d", name, degree)
				}
			}
		}
	}
	isRule(t, "WeightsFor", ruleResult(impl.WeightsFor(of(7, 1, 0), []int64{1, 6})), rule(7, []int64{1, 6}, []int64{4, 4}))
	isRule(t, "WeightsFor one node", ruleResult(impl.WeightsFor(of(7, 3, 1, 2), []int64{0})), rule(7, []int64{0}, []int64{3}))
	isRule(t, "WeightsFor no nodes", ruleResult(impl.WeightsFor(of(7, 3), nil)), rule(7, nil, nil))
	isRule(t, "WeightsFor moments 0", ruleResult(impl.WeightsFor(of(7, 0, 0, 0), []int64{0, 2, 3})), rule(7, []int64{0, 2, 3}, []int64{0, 0, 0}))
}

// TestWeightsOfRules checks that weights for the nodes of a rule, and its moments, are its weights.
func TestWeightsOfRules(t *testing.T) {
	d := &dice{193}
	for _, p := range somePrimes {
		for _, r := range someRules(d, p) {
			for _, n := range []int64{max(1, int64(len(r.Nodes))), 24} {
				m, _ := impl.MomentsOfRule(r, n)
				isRule(t, "WeightsFor the moments of a rule", ruleResult(impl.WeightsFor(m, r.Nodes)), r)
			}
		}
	}
	// They are the only ones that make a rule exact.
	for _, r := range allRules(3) {
		for _, list := range allLists(3, 3) {
			m := of(3, list...)
			degree, _ := impl.DegreeOfRule(m, r)
			weights, _ := impl.WeightsFor(m, r.Nodes)
			if slices.Equal(weights.Weights, r.Weights) != (degree >= int64(len(r.Nodes))-1) {
				t.Errorf("DegreeOfRule %v and %v = %d, and the weights for the nodes are %v", m, r, degree, weights.Weights)
			}
		}
	}
}

func TestSumOf(t *testing.T) {
	d := &dice{194}
	for _, p := range somePrimes {
		for _, r := range someRules(d, p) {
			for _, n := range []int{0, 1, 2, 5, 13, 24, 25} {
				f := d.poly(p, n)
				num(t, fmt.Sprintf("SumOf %v and %v", r, f), numResult(impl.SumOf(r, f)), slowSumOf(r, f))
			}
			num(t, "SumOf the greatest numbers", numResult(impl.SumOf(r, slices.Repeat([]int64{p - 1}, 25))), slowSumOf(r, slices.Repeat([]int64{p - 1}, 25)))
		}
	}
	r := rule(7, []int64{1, 6}, []int64{4, 4})
	num(t, "SumOf", numResult(impl.SumOf(r, []int64{3, 1, 2})), 5)
	num(t, "SumOf 0", numResult(impl.SumOf(r, nil)), 0)
	num(t, "SumOf no nodes", numResult(impl.SumOf(rule(7, nil, nil), longest(7))), 0)
	num(t, "SumOf 1 at 0", numResult(impl.SumOf(rule(7, []int64{0}, []int64{5}), []int64{1})), 5)
}

func TestSumOfAll(t *testing.T) {
	for _, p := range []int64{2, 3} {
		polys := allPolys(p, 4)
		for _, r := range allRules(p) {
			for _, f := range polys {
				num(t, fmt.Sprintf("SumOf %v and %v", r, f), numResult(impl.SumOf(r, f)), slowSumOf(r, f))
			}
		}
	}
}

func TestErrorOf(t *testing.T) {
	d := &dice{195}
	for _, p := range somePrimes {
		for _, r := range someRules(d, p) {
			size := 1 + int(d.below(24))
			m := d.moments(p, size)
			for _, n := range []int{0, 1, size / 2, size} {
				f := d.poly(p, n)
				num(t, fmt.Sprintf("ErrorOf %v, %v and %v", m, r, f), numResult(impl.ErrorOf(m, r, f)), slowErrorOf(m, r, f))
			}
			fails(t, "ErrorOf too great a degree", numResult(impl.ErrorOf(m, r, ofDegree(size))), impl.ErrRange)
			fails(t, "ErrorOf the greatest degree", numResult(impl.ErrorOf(m, r, longest(p))), impl.ErrRange)
		}
	}
	r := rule(7, []int64{1, 6}, []int64{4, 4})
	num(t, "ErrorOf x^3", numResult(impl.ErrorOf(of(7, 1, 0, 1, 0), r, []int64{0, 0, 0, 1})), 0)
	num(t, "ErrorOf x", numResult(impl.ErrorOf(of(7, 1, 5), r, []int64{0, 1})), 5)
	num(t, "ErrorOf 2 x", numResult(impl.ErrorOf(of(7, 1, 5), r, []int64{0, 2})), 3)
	num(t, "ErrorOf no nodes", numResult(impl.ErrorOf(of(7, 1, 5), rule(7, nil, nil), []int64{0, 1})), 5)
}

func TestDegreeOfRule(t *testing.T) {
	d := &dice{196}
	for _, p := range somePrimes {
		for _, r := range someRules(d, p) {
			m := d.moments(p, 1+int(d.below(24)))
			num(t, fmt.Sprintf("DegreeOfRule %v and %v", m, r), numResult(impl.DegreeOfRule(m, r)), slowDegreeOfRule(m, r))
			// Its own moments, and these with another one at k, whatever comes behind it.
			for _, size := range []int{1, 2, 13, 24} {
				own := of(p, slowMomentsOfNodes(p, r.Nodes, r.Weights, size)...)
				num(t, "DegreeOfRule for its moments", numResult(impl.DegreeOfRule(own, r)), int64(size)-1)
				for k := range size {
					other := of(p, slices.Clone(own.List)...)
					other.List[k] = (other.List[k] + 1 + d.below(p-1)) % p
					num(t, "DegreeOfRule for other moments", numResult(impl.DegreeOfRule(other, r)), int64(k)-1)
				}
			}
		}
	}
	r := rule(7, []int64{1, 6}, []int64{4, 4})
	num(t, "DegreeOfRule", numResult(impl.DegreeOfRule(of(7, 1, 0, 1, 0), r)), 3)
	num(t, "DegreeOfRule exact for nothing", numResult(impl.DegreeOfRule(of(7, 2, 0, 1, 0), r)), -1)
	num(t, "DegreeOfRule with an error between", numResult(impl.DegreeOfRule(of(7, 1, 0, 2, 0), r)), 1)
	num(t, "DegreeOfRule without nodes", numResult(impl.DegreeOfRule(of(7, 0, 0, 1), rule(7, nil, nil))), 1)
}

func TestMoveRule(t *testing.T) {
	d := &dice{197}
	for _, p := range somePrimes {
		for i, r := range someRules(d, p) {
			if p > 1000 && i%7 != 0 {
				continue
			}
			for _, a := range []int64{1, p - 1, 1 + d.below(p-1)} {
				b := d.below(p)
				checkMoved(t, r, a, b)
				checkMoved(t, r, a, 0)
				checkMoved(t, r, a, p-1)
			}
			isRule(t, "MoveRule by x", ruleResult(impl.MoveRule(r, 1, 0)), r)
		}
	}
	isRule(t, "MoveRule", ruleResult(impl.MoveRule(rule(7, []int64{1, 2}, []int64{3, 4}), 6, 2)), rule(7, []int64{0, 1}, []int64{4, 3}))
	isRule(t, "MoveRule beyond p - 1", ruleResult(impl.MoveRule(rule(7, []int64{1, 2, 6}, []int64{3, 4, 5}), 1, 3)), rule(7, []int64{2, 4, 5}, []int64{5, 3, 4}))
	isRule(t, "MoveRule keeps weights 0", ruleResult(impl.MoveRule(rule(7, []int64{1, 2}, []int64{0, 0}), 1, 1)), rule(7, []int64{2, 3}, []int64{0, 0}))
	isRule(t, "MoveRule without nodes", ruleResult(impl.MoveRule(rule(7, nil, nil), 3, 3)), rule(7, nil, nil))
}

// checkMoved checks also the promise that moved rules have moved moments.
func checkMoved(t *testing.T, r impl.Rule, a, b int64) {
	t.Helper()
	p := r.Prime
	name := fmt.Sprintf("MoveRule %v by %d and %d", r, a, b)
	moved, code := impl.MoveRule(r, a, b)
	isRule(t, name, ruleResult(moved, code), slowMoved(r, a, b))
	if !impl.IsRule(moved) {
		t.Errorf("%s is no rule", name)
	}
	m, _ := impl.MomentsOfRule(r, 24)
	affine, _ := impl.AffineMoments(m, a, b)
	moments(t, name+", its moments", momentsResult(impl.MomentsOfRule(moved, 24)), p, affine.List...)
	back, _ := impl.InverseOf(p, a)
	isRule(t, name+" and back", ruleResult(impl.MoveRule(moved, back, modulo(p, -b*back))), r)
}

func TestMergeRules(t *testing.T) {
	d := &dice{198}
	for _, p := range somePrimes {
		most := int64(mostNodes(p))
		for range 12 {
			for _, k := range []int64{0, 1, p - 1, d.below(p)} {
				r, s := d.rule(p, int(d.below(most/2+1))), d.rule(p, int(d.below(most/2+1)))
				checkMerged(t, r, s, k)
				// One rule within the other, and one without nodes.
				part := rule(p, r.Nodes[:len(r.Nodes)/2], d.list(p, len(r.Nodes)/2))
				checkMerged(t, r, part, k)
				checkMerged(t, part, r, k)
				checkMerged(t, r, rule(p, nil, nil), k)
				checkMerged(t, rule(p, nil, nil), r, k)
				checkMerged(t, r, r, k)
			}
		}
	}
	r := rule(7, []int64{1, 6}, []int64{4, 4})
	isRule(t, "MergeRules", ruleResult(impl.MergeRules(r, rule(7, []int64{3, 6}, []int64{1, 1}), 3)), rule(7, []int64{1, 3, 6}, []int64{4, 3, 0}))
	isRule(t, "MergeRules exchanged", ruleResult(impl.MergeRules(rule(7, []int64{3, 6}, []int64{1, 1}), r, 3)), rule(7, []int64{1, 3, 6}, []int64{5, 1, 6}))
	isRule(t, "MergeRules, 0 times the second one", ruleResult(impl.MergeRules(r, rule(7, []int64{3, 6}, []int64{1, 1}), 0)), rule(7, []int64{1, 3, 6}, []int64{4, 0, 4}))
	isRule(t, "MergeRules of a rule and itself", ruleResult(impl.MergeRules(r, r, 6)), rule(7, []int64{1, 6}, []int64{0, 0}))
	isRule(t, "MergeRules without nodes", ruleResult(impl.MergeRules(rule(7, nil, nil), rule(7, nil, nil), 6)), rule(7, nil, nil))
}

// checkMerged checks also the promise that merged rules have merged moments.
func checkMerged(t *testing.T, r, s impl.Rule, k int64) {
	t.Helper()
	p := r.Prime
	name := fmt.Sprintf("MergeRules %v, %v and %d", r, s, k)
	merged, code := impl.MergeRules(r, s, k)
	isRule(t, name, ruleResult(merged, code), slowMerged(r, s, k))
	if !impl.IsRule(merged) {
		t.Errorf("%s is no rule", name)
	}
	m, _ := impl.MomentsOfRule(r, 24)
	n, _ := impl.MomentsOfRule(s, 24)
	both, _ := impl.AddMoments(m, n, k)
	moments(t, name+", its moments", momentsResult(impl.MomentsOfRule(merged, 24)), p, both.List...)
}

// TestMergeRulesOfMany checks that 24 nodes are accepted, and 25 are not, however many are common,
// and whatever the weights are.
func TestMergeRulesOfMany(t *testing.T) {
	d := &dice{199}
	for _, p := range []int64{29, 53, 101, 10007} {
		for n := range 25 {
			for common := range n + 1 {
				for _, all := range []int{n, 24, 25} {
					// The second rule has the common nodes, and others.
					others := all - n
					if others < 0 || common+others > 24 {
						continue
					}
					nodes := d.different(p, all)
					r := rule(p, slices.Sorted(slices.Values(nodes[:n])), d.list(p, n))
					s := rule(p, slices.Sorted(slices.Values(nodes[n-common:])), d.list(p, common+others))
					merged := ruleResult(impl.MergeRules(r, s, d.below(p)))
					if all > 24 {
						fails(t, "MergeRules of 25 nodes", merged, impl.ErrLimit)
						fails(t, "MergeRules of 25 nodes, 0 times", ruleResult(impl.MergeRules(r, s, 0)), impl.ErrLimit)
					} else if merged.code != impl.ErrNone || len(merged.lists[0]) != all {
						t.Errorf("MergeRules of %d nodes = %v, code %d", all, merged.lists, merged.code)
					}
				}
			}
		}
	}
	r, s := rule(101, firstNodes(24), make([]int64, 24)), rule(101, firstNodes(24), make([]int64, 24))
	for i := range s.Nodes {
		s.Nodes[i] += 30
	}
	fails(t, "MergeRules of 48 nodes", ruleResult(impl.MergeRules(r, s, 1)), impl.ErrLimit)
	isRule(t, "MergeRules of 24 nodes, all common", ruleResult(impl.MergeRules(s, s, 1)), s)
}

func TestWithoutRests(t *testing.T) {
	d := &dice{200}
	for _, p := range somePrimes {
		for _, r := range someRules(d, p) {
			without, code := impl.WithoutRests(r)
			isRule(t, fmt.Sprintf("WithoutRests %v", r), ruleResult(without, code), slowWithoutRests(r))
			isRule(t, "WithoutRests twice", ruleResult(impl.WithoutRests(without)), without)
			m, _ := impl.MomentsOfRule(r, 24)
			moments(t, "WithoutRests, its moments", momentsResult(impl.MomentsOfRule(without, 24)), p, m.List...)
		}
		for n := range mostNodes(p) + 1 {
			nodes := d.ascending(p, n)
			isRule(t, "WithoutRests of weights 0", ruleResult(impl.WithoutRests(rule(p, nodes, make([]int64, n)))), rule(p, nil, nil))
			all := rule(p, nodes, d.nonzero(p, n))
			isRule(t, "WithoutRests of other weights", ruleResult(impl.WithoutRests(all)), all)
		}
	}
	isRule(t, "WithoutRests", ruleResult(impl.WithoutRests(rule(7, []int64{1, 3, 6}, []int64{4, 3, 0}))), rule(7, []int64{1, 3}, []int64{4, 3}))
	isRule(t, "WithoutRests keeps the node 0", ruleResult(impl.WithoutRests(rule(7, []int64{0, 3, 6}, []int64{4, 0, 1}))), rule(7, []int64{0, 6}, []int64{4, 1}))
	isRule(t, "WithoutRests of the node 0", ruleResult(impl.WithoutRests(rule(7, []int64{0, 3}, []int64{0, 1}))), rule(7, []int64{3}, []int64{1}))
}

func TestWithoutRestsOfAll(t *testing.T) {
	for _, p := range []int64{2, 3, 5} {
		for _, r := range allRules(p) {
			isRule(t, fmt.Sprintf("WithoutRests %v", r), ruleResult(impl.WithoutRests(r)), slowWithoutRests(r))
		}
	}
}

func TestMomentsOfRule(t *testing.T) {
	d := &dice{201}
	for _, p := range somePrimes {
		for _, r := range someRules(d, p) {
			want := slowMomentsOfNodes(p, r.Nodes, r.Weights, 24)
			for n := int64(1); n <= 24; n++ {
				moments(t, fmt.Sprintf("MomentsOfRule %v and %d", r, n), momentsResult(impl.MomentsOfRule(r, n)), p, want[:n]...)
				num(t, "SumOf a power", numResult(impl.SumOf(r, ofDegree(int(n)-1))), want[n-1])
			}
			if len(r.Nodes) <= impl.MaxNodes {
				m, _ := impl.MomentsOfNodes(p, r.Nodes, r.Weights, 24)
				moments(t, "MomentsOfRule of few nodes", momentsResult(impl.MomentsOfRule(r, 24)), p, m.List...)
			}
		}
		moments(t, "MomentsOfRule without nodes", momentsResult(impl.MomentsOfRule(rule(p, nil, nil), 24)), p, make([]int64, 24)...)
		moments(t, "MomentsOfRule of the node 0", momentsResult(impl.MomentsOfRule(rule(p, []int64{0}, []int64{p - 1}), 3)), p, p-1, 0, 0)
	}
	moments(t, "MomentsOfRule", momentsResult(impl.MomentsOfRule(rule(7, []int64{1, 6}, []int64{4, 4}), 4)), 7, 1, 0, 1, 0)
}

func TestNodePoly(t *testing.T) {
	d := &dice{202}
	for _, p := range somePrimes {
		for _, r := range someRules(d, p) {
			f := listResult(impl.NodePoly(r))
			lists(t, fmt.Sprintf("NodePoly %v", r), f, productOfRoots(p, 1, r.Nodes))
			num(t, "SumOf the product of all nodes", numResult(impl.SumOf(r, f.lists[0])), 0)
		}
		lists(t, "NodePoly without nodes", listResult(impl.NodePoly(rule(p, nil, nil))), []int64{1})
	}
	lists(t, "NodePoly", listResult(impl.NodePoly(rule(7, []int64{1, 6}, []int64{4, 4}))), []int64{6, 0, 1})
	lists(t, "NodePoly of nodes with the weight 0", listResult(impl.NodePoly(rule(7, []int64{1, 6}, []int64{0, 0}))), []int64{6, 0, 1})
}
