package tests

import (
	"sync"
	"testing"

	"loop.example/g01283/impl"
)

func TestMemoryOfPolys(t *testing.T) {
	for _, c := range polyCalls {
		samples := []struct {
			f, g []int64
			k    int64
		}{
			{[]int64{1, 2, 3}, []int64{3, 1}, 0}, {[]int64{1, 2, 3}, []int64{3, 1}, 1}, {[]int64{3, 1}, []int64{1, 2, 3}, 2},
			{[]int64{1, 2, 1}, []int64{1}, 0}, {[]int64{1}, []int64{1, 2, 1}, 1}, {[]int64{2, 1}, []int64{2, 1}, 1},
			{[]int64{1, 2, 1}, []int64{0, 1}, 0}, {[]int64{0, 1}, []int64{1, 2, 1}, 0}, {[]int64{0, 0, 0, 1}, []int64{0, 1}, 1},
		}
		for _, s := range samples {
			pure(t, c.name, func(g *guards) result { return c.call(7, g.list(s.f...), g.list(s.g...), s.k) })
			if c.count == 2 {
				pure(t, c.name+" of one list twice", func(g *guards) result {
					f := g.list(s.f...)
					return c.call(7, f, f, s.k)
				})
			}
		}
	}
	for _, name := range []string{"GcdPolys", "AddPolys", "MultiplyPolys", "ComposePolys"} {
		for _, c := range polyCalls {
			if c.name == name {
				pure(t, name+" with 0", func(g *guards) result { return c.call(7, g.list(4, 1), g.list(), 1) })
				pure(t, name+" of 0", func(g *guards) result { return c.call(7, g.list(), g.list(4, 1), 1) })
			}
		}
	}
	pure(t, "InterpolatePoly", func(g *guards) result {
		return listResult(impl.InterpolatePoly(7, g.list(5, 0, 3), g.list(1, 2, 1)))
	})
	pure(t, "InterpolatePoly of one node", func(g *guards) result {
		return listResult(impl.InterpolatePoly(7, g.list(5), g.list(1)))
	})
	pure(t, "ParsePoly", func(g *guards) result { return listResult(impl.ParsePoly(7, "6,0,3")) })
}

func TestArgumentsUnchangedBesideErrors(t *testing.T) {
	for _, c := range polyCalls {
		g := &guards{}
		c.call(7, g.list(1, 0), g.list(1), 1)
		c.call(4, g.list(1, 2), g.list(1, 3), 1)
		c.call(7, g.list(1, 2), g.list(), 9)
		c.call(7, g.list(longest(7)...), g.list(longest(7)...), 5)
		if !g.unchanged() {
			t.Errorf("%s changed an argument", c.name)
		}
	}
	g := &guards{}
	impl.IsPoly(7, g.list(0, 0))
	impl.InterpolatePoly(7, g.list(2, 2), g.list(1, 1))
	if !g.unchanged() {
		t.Errorf("IsPoly or InterpolatePoly changed an argument")
	}
}

func TestCallsSideBySide(t *testing.T) {
	f, g := longest(101), []int64{3, 5, 7}
	want := make([]result, len(polyCalls))
	for i, c := range polyCalls {
		want[i] = c.call(101, f, g, 1).clone()
	}
	var group sync.WaitGroup
	for range 8 {
		group.Go(func() {
			for i, c := range polyCalls {
				if r := c.call(101, f, g, 1); !r.equals(want[i]) {
					t.Errorf("%s = %v, want %v", c.name, r, want[i])
				}
			}
		})
	}
	group.Wait()
}
