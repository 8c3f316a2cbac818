package tests

import (
	"slices"
	"sync"
	"testing"

	"loop.example/g01283/impl"
)

func TestMemoryOfData(t *testing.T) {
	samples := []struct {
		alpha, beta []int64
		a, b        int64
	}{
		{[]int64{1, 2, 0}, []int64{1, 3, 5}, 1, 0},
		{[]int64{1, 2, 0}, []int64{1, 3, 5}, 2, 6},
		{[]int64{0, 0, 0, 6}, []int64{1, 1, 1, 6}, 3, 3},
		{[]int64{4, 5}, []int64{6, 1}, 1, 2},
	}
	for _, c := range dataCalls {
		for _, s := range samples {
			pure(t, c.name, func(g *guards) result {
				return c.call(data(7, g.list(s.alpha...), g.list(s.beta...)), s.a, s.b)
			})
		}
		pure(t, c.name+" of one list twice", func(g *guards) result {
			list := g.list(1, 2, 3)
			return c.call(data(7, list, list), 1, 1)
		})
	}
	for k := range int64(4) {
		pure(t, "PolyOf", func(g *guards) result {
			return listResult(impl.PolyOf(data(7, g.list(1, 2, 0), g.list(1, 3, 5)), k))
		})
		pure(t, "AssociatedOf", func(g *guards) result {
			return listResult(impl.AssociatedOf(data(7, g.list(1, 2, 0), g.list(1, 3, 5)), k))
		})
	}
	pure(t, "CutJacobi to all", func(g *guards) result {
		return jacobiResult(impl.CutJacobi(data(7, g.list(1, 2, 0), g.list(1, 3, 5)), 3))
	})
	pure(t, "ShiftJacobi by 0", func(g *guards) result {
		return jacobiResult(impl.ShiftJacobi(data(7, g.list(1, 2, 0), g.list(1, 3, 5)), 0))
	})
	pure(t, "MatrixOf 12 numbers", func(g *guards) result {
		return rowsResult(impl.MatrixOf(data(7, g.list(make([]int64, 12)...), g.list(slices.Repeat([]int64{1}, 12)...))))
	})
	pure(t, "FindJacobi", func(g *guards) result {
		return jacobiResult(impl.FindJacobi(7, g.list(5, 1, 4, 1), g.list(6, 4, 1), 4))
	})
	pure(t, "FindJacobi of one number", func(g *guards) result {
		return jacobiResult(impl.FindJacobi(7, g.list(5, 1), g.list(1), 4))
	})
}

func TestMemoryOfMatrices(t *testing.T) {
	// The first number of the second row is 0, so that rows change places.
	for _, numbers := range [][][]int64{{{1, 2, 3}, {0, 4, 5}, {6, 1, 2}}, {{1, 2, 3}, {2, 4, 5}, {6, 1, 2}}, {{4}}, {}} {
		pureRows(t, "CharacteristicPoly", numbers, func(rows [][]int64) result {
			return listResult(impl.CharacteristicPoly(7, rows))
		})
	}
	pure(t, "CharacteristicPoly of one row three times", func(g *guards) result {
		row := g.list(1, 2, 3)
		return listResult(impl.CharacteristicPoly(7, [][]int64{row, row, row}))
	})
	rows, _ := impl.MatrixOf(sample())
	for _, row := range rows {
		_ = append(row, 9, 9, 9)
	}
	lists(t, "MatrixOf, with numbers appended to its rows", rowsResult(rows, impl.ErrNone), []int64{1, 1, 0}, []int64{3, 2, 1}, []int64{0, 5, 0})
}

func TestDataUnchangedBesideErrors(t *testing.T) {
	g := &guards{}
	for _, c := range dataCalls {
		c.call(data(7, g.list(1, 2, 0), g.list(1, 3, 0)), 1, 1)
		c.call(data(7, g.list(1, 2, 0), g.list(1, 3)), 1, 1)
		c.call(data(4, g.list(1, 2), g.list(1, 3)), 1, 1)
		c.call(data(7, g.list(1, 2, 0), g.list(1, 3, 5)), 9, 9)
	}
	impl.IsJacobi(data(7, g.list(1, 2, 0), g.list(1, 3, 5)))
	impl.CharacteristicPoly(7, [][]int64{g.list(1, 2), g.list(1, 9)})
	impl.CharacteristicPoly(4, [][]int64{g.list(1, 2), g.list(1, 3)})
	impl.FindJacobi(7, g.list(0, 1, 0, 1), g.list(0, 0, 1), 1)
	impl.FindJacobi(7, g.list(5, 1, 4, 2), g.list(6, 4, 1), 1)
	if !g.unchanged() {
		t.Errorf("a function of data changed an argument")
	}
}

func TestDataSideBySide(t *testing.T) {
	j := (&dice{58}).data(101, 12)
	rows, f, g := slowMatrix(j), slowPoly(j, 12), slowPoly(j, 11)
	calls := append(slices.Clone(dataCalls), dataCall{"CharacteristicPoly", noNumbers, func(j impl.Jacobi, a, b int64) result {
		return listResult(impl.CharacteristicPoly(101, rows))
	}}, dataCall{"FindJacobi", noNumbers, func(j impl.Jacobi, a, b int64) result {
		return jacobiResult(impl.FindJacobi(101, f, g, a))
	}})
	want := make([]result, len(calls))
	for i, c := range calls {
		want[i] = c.call(j, 5, 6).clone()
	}
	var group sync.WaitGroup
	for range 8 {
		group.Go(func() {
			for i, c := range calls {
				if r := c.call(j, 5, 6); !r.equals(want[i]) {
					t.Errorf("%s = %v, want %v", c.name, r, want[i])
				}
			}
		})
	}
	group.Wait()
}
