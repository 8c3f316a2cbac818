package tests

import (
	"math"
	"slices"
	"strings"
	"testing"

	"loop.example/g01283/impl"
)

var momentNames = []string{"uniform", "laguerre", "hermite", "catalan", "poisson"}

// Names that are told for no moments: those of Jacobi data, and what only resembles a name.
var noNames = []string{"", "second", "legendre", "Catalan", "CATALAN", "catalan ", " catalan", "catala", "catalans", "catalan\x00", "\xff", "uniform\n", strings.Repeat("catalan", 100000)}

func TestNamedMoments(t *testing.T) {
	for _, name := range momentNames {
		for _, p := range []int64{2, 3, 5, 7, 11, 19, 23, 29, 101, 10007} {
			var want []int64
			for n := int64(1); n <= 24; n++ {
				r := momentsResult(impl.NamedMoments(name, p, n))
				if name == "uniform" && n >= p {
					fails(t, "NamedMoments of uniform", r, impl.ErrState)
					continue
				}
				want = append(want, slowNamed(name, p, int(n-1)))
				moments(t, "NamedMoments of "+name, r, p, want...)
			}
		}
	}
}

func TestFirstNamedMoments(t *testing.T) {
	cases := []struct {
		name string
		p    int64
		want []int64
	}{
		{"catalan", 7, []int64{1, 1, 2, 5}},
		{"catalan", 10007, []int64{1, 1, 2, 5, 14, 42, 132, 429, 1430, 4862}},
		{"poisson", 10007, []int64{1, 1, 2, 5, 15, 52, 203, 877, 4140}},
		{"hermite", 10007, []int64{1, 0, 1, 0, 3, 0, 15, 0, 105, 0, 945}},
		{"laguerre", 10007, []int64{1, 1, 2, 6, 24, 120, 720, 5040}},
		{"uniform", 7, []int64{1, 4, 5, 2, 3, 6}},
		{"uniform", 2, []int64{1}},
		{"hermite", 2, []int64{1, 0, 1, 0, 1}},
		{"laguerre", 3, []int64{1, 1, 2, 0, 0}},
	}
	for _, c := range cases {
		moments(t, "NamedMoments of "+c.name, momentsResult(impl.NamedMoments(c.name, c.p, int64(len(c.want)))), c.p, c.want...)
	}
}

func TestNamedMomentsErrors(t *testing.T) {
	counts := append([]int64{0, 25, 26}, extremes...)
	for _, name := range slices.Concat(momentNames, noNames) {
		for _, p := range noPrimes {
			for _, n := range append([]int64{1, 24}, counts...) {
				fails(t, "NamedMoments for no prime", momentsResult(impl.NamedMoments(name, p, n)), impl.ErrRange)
			}
		}
		for _, n := range counts {
			for _, p := range somePrimes {
				fails(t, "NamedMoments", momentsResult(impl.NamedMoments(name, p, n)), impl.ErrRange)
			}
		}
	}
	for _, name := range noNames {
		for _, p := range somePrimes {
			for _, n := range []int64{1, 2, 24} {
				fails(t, "NamedMoments of no name", momentsResult(impl.NamedMoments(name, p, n)), impl.ErrNotFound)
			}
		}
	}
}

func TestMomentsOfNodes(t *testing.T) {
	d := &dice{33}
	for _, p := range somePrimes {
		for count := range int(min(p, impl.MaxNodes)) + 1 {
			for n := 1; n < 25; n++ {
				nodes, weights := d.different(p, count), d.list(p, count)
				r := momentsResult(impl.MomentsOfNodes(p, nodes, weights, int64(n)))
				moments(t, "MomentsOfNodes", r, p, slowMomentsOfNodes(p, nodes, weights, n)...)
			}
		}
	}
	moments(t, "MomentsOfNodes", momentsResult(impl.MomentsOfNodes(7, []int64{1, 2}, []int64{3, 1}, 3)), 7, 4, 5, 0)
	moments(t, "MomentsOfNodes of 0", momentsResult(impl.MomentsOfNodes(7, []int64{0}, []int64{3}, 4)), 7, 3, 0, 0, 0)
	moments(t, "MomentsOfNodes of no nodes", momentsResult(impl.MomentsOfNodes(7, nil, nil, 2)), 7, 0, 0)
	moments(t, "MomentsOfNodes of the weight 0", momentsResult(impl.MomentsOfNodes(7, []int64{2}, []int64{0}, 3)), 7, 0, 0, 0)
}

// TestOrdersOfNodes checks that moments of n nodes have an order of at most n, and that it is n if
// no weight is 0 and there are enough moments.
func TestOrdersOfNodes(t *testing.T) {
	d := &dice{34}
	for _, p := range somePrimes {
		for count := range int(min(p, impl.MaxNodes)) + 1 {
			for n := int64(1); n < 25; n++ {
				m, _ := impl.MomentsOfNodes(p, d.different(p, count), d.list(p, count), n)
				order, code := impl.OrderOf(m)
				if code != impl.ErrNone || order > int64(count) {
					t.Errorf("OrderOf the moments of %d nodes = %d, code %d", count, order, code)
				}
			}
			m, _ := impl.MomentsOfNodes(p, d.different(p, count), slices.Repeat([]int64{1}, count), 24)
			h, code := impl.HankelDeterminant(m, int64(count))
			if code != impl.ErrNone || h == 0 {
				t.Errorf("HankelDeterminant of %d nodes and weights 1 = %d, code %d", count, h, code)
			}
		}
	}
}

func TestMomentsOfNodesErrors(t *testing.T) {
	ascending := make([]int64, 13)
	for i := range ascending {
		ascending[i] = int64(i)
	}
	zeros := make([]int64, 13)
	moments(t, "MomentsOfNodes of 12 nodes", momentsResult(impl.MomentsOfNodes(29, ascending[:12], zeros[:12], 2)), 29, 0, 0)
	bad := []struct {
		name           string
		nodes, weights []int64
		n              int64
	}{
		{"13 nodes", ascending, zeros, 2},
		{"too many weights", ascending[:3], zeros[:4], 2},
		{"too many nodes", ascending[:4], zeros[:3], 2},
		{"weights alone", nil, zeros[:1], 2},
		{"nodes alone", zeros[:1], nil, 2},
		{"equal nodes", []int64{1, 2, 1}, []int64{3, 4, 3}, 2},
		{"equal nodes of the weight 0", []int64{0, 0}, []int64{0, 0}, 2},
		{"a node of p", []int64{1, 29}, []int64{3, 4}, 2},
		{"a node below 0", []int64{-1, 2}, []int64{3, 4}, 2},
		{"a weight of p", []int64{1, 2}, []int64{29, 4}, 2},
		{"a weight below 0", []int64{1, 2}, []int64{3, -1}, 2},
		{"extreme nodes", []int64{math.MinInt64, math.MaxInt64}, []int64{3, 1}, 2},
		{"extreme weights", []int64{0, 1}, []int64{math.MinInt64, math.MaxInt64}, 2},
		{"very long lists", make([]int64, 1000000), make([]int64, 1000000), 2},
		{"no moments", []int64{1, 2}, []int64{3, 4}, 0},
		{"25 moments", []int64{1, 2}, []int64{3, 4}, 25},
		{"fewer than no moments", []int64{1, 2}, []int64{3, 4}, -1},
		{"the least number of moments", nil, nil, math.MinInt64},
		{"the greatest number of moments", nil, nil, math.MaxInt64},
	}
	for _, c := range bad {
		fails(t, "MomentsOfNodes with "+c.name, momentsResult(impl.MomentsOfNodes(29, c.nodes, c.weights, c.n)), impl.ErrRange)
	}
	for _, p := range noPrimes {
		fails(t, "MomentsOfNodes for no prime", momentsResult(impl.MomentsOfNodes(p, []int64{0, 1}, []int64{1, 0}, 2)), impl.ErrRange)
		fails(t, "MomentsOfNodes for no prime", momentsResult(impl.MomentsOfNodes(p, nil, nil, 2)), impl.ErrRange)
	}
}
