package tests

import (
	"slices"
	"testing"

	"loop.example/g01283/impl"
)

// guarded returns copies of arguments that are guarded.
func (x pathArguments) guarded(g *guards) pathArguments {
	y := x
	y.j.Alpha, y.j.Beta = g.list(x.j.Alpha...), g.list(x.j.Beta...)
	return y
}

// walkable are arguments that all functions take.
func walkable() []pathArguments {
	return []pathArguments{
		{sample(), "UULDD", [4]int64{0, 0, 1, 2}},
		{sample(), "", [4]int64{2, 2, 2, 2}},
		{data(7, []int64{3}, []int64{4}), "LLL", [4]int64{0, 0, 0, 0}},
		{(&dice{295}).data(101, 12), "DUUULDLDDL", [4]int64{5, 6, 3, 7}},
	}
}

func TestMemoryOfPaths(t *testing.T) {
	for _, c := range pathCalls {
		for _, x := range walkable() {
			pure(t, c.name, func(g *guards) result { return c.call(x.guarded(g)) })
		}
		pure(t, c.name+" of one list twice", func(g *guards) result {
			list := g.list(1, 2, 3)
			return c.call(pathArguments{data(7, list, list), "ULD", [4]int64{1, 1, 1, 1}})
		})
	}
	pure(t, "TurningSums of the greatest length", func(g *guards) result {
		return listResult(impl.TurningSums(pathArguments{j: sample()}.guarded(g).j, 24))
	})
}

// TestRowsOfTriangles checks that what is appended to a row comes into no other one.
func TestRowsOfTriangles(t *testing.T) {
	for _, call := range []func(j impl.Jacobi) ([][]int64, int64){impl.PathTriangle, impl.InverseTriangle} {
		rows, _ := call(sample())
		for _, row := range rows {
			_ = append(row, 9, 9, 9)
		}
		isRows(t, "a triangle with numbers appended to its rows", rowsResult(rows, impl.ErrNone), first(call(sample())))
	}
}

// TestListsOfPaths checks that each call has a list of texts of its own.
func TestListsOfPaths(t *testing.T) {
	texts, _ := impl.PathsOf(3, 1, 1, 2)
	want := slices.Clone(texts)
	clear(texts[:cap(texts)])
	if again, _ := impl.PathsOf(3, 1, 1, 2); len(want) == 0 || !slices.Equal(again, want) {
		t.Errorf("PathsOf = %q, then %q", want, again)
	}
}

func TestPathsUnchangedBesideErrors(t *testing.T) {
	g := &guards{}
	for _, c := range pathCalls {
		for _, p := range []int64{4, 7, 101} {
			for _, x := range walkable() {
				x.j.Prime = p
				for _, n := range []int64{-1, 0, 2, 12, 24, 25} {
					for _, path := range []string{"", "UUU", "DDD", "x"} {
						y := x.guarded(g)
						y.path, y.numbers = path, [4]int64{n, n, n, n}
						c.call(y)
					}
				}
			}
		}
	}
	if !g.unchanged() {
		t.Errorf("a function of paths changed an argument")
	}
}

func TestPathsSideBySide(t *testing.T) {
	var calls []func() result
	for _, c := range pathCalls {
		for _, x := range walkable() {
			calls = append(calls, func() result { return c.call(x) })
		}
	}
	sameSideBySide(t, calls)
}
