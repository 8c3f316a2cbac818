package tests

import (
	"sync"
	"testing"

	"loop.example/g01283/impl"
)

func TestMemoryOfOrthogonal(t *testing.T) {
	samples := []struct {
		m, f []int64
		a, b int64
	}{
		{[]int64{1, 1, 2, 5}, []int64{3, 2}, 1, 4},
		{[]int64{3, 5, 1}, []int64{1}, 1, 0},
		{(&dice{97}).regular(7, 24).List, []int64{1, 2, 3, 4}, 11, 6},
		{(&dice{98}).regular(7, 24).List, nil, 5, 3},
		{(&dice{99}).regular(7, 24).List, []int64{5}, 2, 0},
	}
	for _, c := range orthogonalCalls {
		for _, s := range samples {
			pure(t, c.name, func(g *guards) result {
				return c.call(of(7, g.list(s.m...)...), g.list(s.f...), s.a, s.b, s.b)
			})
		}
		pure(t, c.name+" of one list twice", func(g *guards) result {
			list := g.list(1, 1, 2, 5)
			return c.call(of(7, list...), list[:2], 1, 1, 1)
		})
	}
	for k := range int64(3) {
		pure(t, "OrthogonalPolynomial", func(g *guards) result {
			return listResult(impl.OrthogonalPolynomial(of(7, g.list(1, 1, 2, 5)...), k))
		})
	}
	for n := int64(1); n < 5; n++ {
		pure(t, "MomentsOfJacobi", func(g *guards) result {
			return momentsResult(impl.MomentsOfJacobi(data(7, g.list(1, 2), g.list(1, 3)), n))
		})
	}
	pure(t, "ReproduceAt of 0", func(g *guards) result {
		return numResult(impl.ReproduceAt(of(7, g.list(1, 1, 2, 5)...), 1, g.list(), 3))
	})
}

func TestOrthogonalUnchangedBesideErrors(t *testing.T) {
	g := &guards{}
	for _, c := range orthogonalCalls {
		c.call(of(7, g.list(1, 9)...), g.list(1), 1, 1, 1)
		c.call(of(4, g.list(1, 2)...), g.list(1), 1, 1, 1)
		c.call(of(7, g.list(1, 1, 2, 5)...), g.list(1, 0), 1, 1, 1)
		c.call(of(7, g.list(1, 1, 2, 5)...), g.list(1, 2, 3), 9, 9, 9)
		c.call(of(7, g.list(1, 1, 1, 1)...), g.list(1, 2, 3, 4), 3, 1, 1)
		c.call(of(7, g.list(0, 1, 1, 1)...), g.list(1, 2, 3, 4), 12, 1, 1)
	}
	if !g.unchanged() {
		t.Errorf("a function of orthogonal polynomials changed an argument")
	}
}

// TestOrthogonalSideBySide checks also that calls that panic inside do not disturb others.
func TestOrthogonalSideBySide(t *testing.T) {
	regular, f := (&dice{100}).regular(101, 24), []int64{3, 5, 7}
	all := []impl.Moments{regular, of(101, regular.List[:5]...), of(101, 0, 1, 2, 3)}
	var want []result
	for _, m := range all {
		for _, c := range orthogonalCalls {
			want = append(want, c.call(m, f, 5, 6, 7).clone())
		}
	}
	var group sync.WaitGroup
	for range 8 {
		group.Go(func() {
			for i, m := range all {
				for k, c := range orthogonalCalls {
					if r := c.call(m, f, 5, 6, 7); !r.equals(want[i*len(orthogonalCalls)+k]) {
						t.Errorf("%s = %v, want %v", c.name, r, want[i*len(orthogonalCalls)+k])
					}
				}
			}
		})
	}
	group.Wait()
}
