package tests

import (
	"sync"
	"testing"

	"loop.example/g01283/impl"
)

func TestMemoryOfMoments(t *testing.T) {
	samples := []struct {
		m, o, f []int64
		a, b    int64
	}{
		{[]int64{1, 2, 3}, []int64{3, 1, 0}, []int64{2, 1}, 1, 0},
		{[]int64{0, 1, 0, 2, 5}, []int64{3, 1, 0, 6, 6}, []int64{1}, 2, 0},
		{[]int64{0, 0, 4, 2, 5}, []int64{0, 0, 0, 0, 0}, []int64{0, 0, 3, 1}, 3, 6},
		{[]int64{5, 0, 0, 0}, []int64{1, 2, 3, 4}, nil, 1, 1},
		{[]int64{5, 6}, []int64{0, 0}, []int64{0, 1}, 1, 2},
	}
	for _, c := range momentsCalls {
		for _, s := range samples {
			pure(t, c.name, func(g *guards) result {
				return c.call(of(7, g.list(s.m...)...), of(7, g.list(s.o...)...), g.list(s.f...), s.a, s.b)
			})
			pure(t, c.name+" of one list twice", func(g *guards) result {
				m := of(7, g.list(s.m...)...)
				return c.call(m, m, g.list(s.f...), s.a, s.b)
			})
		}
	}
	pure(t, "CutMoments to all", func(g *guards) result {
		return momentsResult(impl.CutMoments(of(7, g.list(1, 2, 3)...), 3))
	})
	pure(t, "AddMoments of no times others", func(g *guards) result {
		return momentsResult(impl.AddMoments(of(7, g.list(1, 2, 3)...), of(7, g.list(4, 5, 6)...), 0))
	})
	pure(t, "MomentsOfNodes", func(g *guards) result {
		return momentsResult(impl.MomentsOfNodes(7, g.list(5, 0, 3), g.list(1, 2, 1), 3))
	})
	pure(t, "MomentsOfNodes of one node", func(g *guards) result {
		return momentsResult(impl.MomentsOfNodes(7, g.list(1), g.list(1), 1))
	})
	for _, name := range momentNames {
		pure(t, "NamedMoments of "+name, func(g *guards) result { return momentsResult(impl.NamedMoments(name, 7, 5)) })
	}
}

func TestMomentsUnchangedBesideErrors(t *testing.T) {
	g := &guards{}
	for _, c := range momentsCalls {
		c.call(of(7, g.list(1, 9)...), of(7, g.list(1)...), g.list(1), 1, 1)
		c.call(of(4, g.list(1, 2)...), of(4, g.list(1, 3)...), g.list(1), 1, 1)
		c.call(of(7, g.list(1, 2)...), of(5, g.list(1, 3)...), g.list(1, 2, 3), 9, 9)
		c.call(of(7, g.list(1)...), of(7, g.list(1, 3)...), g.list(1, 0), -1, 1)
	}
	impl.AreMoments(of(7, g.list(1, 2)...))
	impl.MomentsOfNodes(7, g.list(2, 2), g.list(1, 1), 3)
	impl.MomentsOfNodes(7, g.list(2, 3), g.list(1), 3)
	if !g.unchanged() {
		t.Errorf("a function of moments changed an argument")
	}
}

func TestMomentsSideBySide(t *testing.T) {
	m, o, f := of(101, longest(101)[1:]...), of(101, longest(101)[:24]...), []int64{3, 5, 7}
	want := make([]result, len(momentsCalls))
	for i, c := range momentsCalls {
		want[i] = c.call(m, o, f, 5, 6).clone()
	}
	var group sync.WaitGroup
	for range 8 {
		group.Go(func() {
			for i, c := range momentsCalls {
				if r := c.call(m, o, f, 5, 6); !r.equals(want[i]) {
					t.Errorf("%s = %v, want %v", c.name, r, want[i])
				}
			}
		})
	}
	group.Wait()
}
