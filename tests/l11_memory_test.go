package tests

import (
	"fmt"
	"testing"

	"loop.example/g01283/impl"
)

// guardedDesk returns a copy of a desk that is guarded.
func guardedDesk(g *guards, d impl.Desk) impl.Desk {
	m := of(d.Moments.Prime, g.list(d.Moments.List...)...)
	j := data(d.Jacobi.Prime, g.list(d.Jacobi.Alpha...), g.list(d.Jacobi.Beta...))
	return impl.Desk{Moments: m, Jacobi: j, Polynomial: g.list(d.Polynomial...)}
}

func TestMemoryOfDesks(t *testing.T) {
	d := &dice{411}
	desks := []impl.Desk{ready(), newDeskOf(7), desk(of(2, 1), data(2, []int64{0}, []int64{1})), d.desk(101, 24, 12, 25)}
	for _, r := range consoleRows {
		lines := []string{r.ordinary, r.ordinary + " ", r.name + " 1 1 1 1 1", r.name + " 999999999", d.line(r, 7), d.line(r, 101)}
		for _, line := range lines {
			for _, x := range desks {
				pure(t, fmt.Sprintf("RunLine of %q", line), func(g *guards) result {
					return deskResult(impl.RunLine(guardedDesk(g, x), line))
				})
			}
			// One list in the place of all.
			pure(t, fmt.Sprintf("RunLine of %q with one list", line), func(g *guards) result {
				list := g.list(1, 2, 3)
				return deskResult(impl.RunLine(desk(of(101, list...), data(101, list, list), list...), line))
			})
		}
	}
	pure(t, "NewDesk", func(g *guards) result { return deskResult(impl.NewDesk(), "") })
	for _, text := range []string{"", "show", "prime 7", "reset\nreset", "named catalan 24\njacobi 12\northogonal 12\nexpand\nfly", "poly 0"} {
		pure(t, fmt.Sprintf("DeskAfter %q", text), func(g *guards) result {
			after, _ := impl.DeskAfter(text)
			return deskResult(after, "")
		})
	}
}

func TestNoDesksUnchanged(t *testing.T) {
	g := &guards{}
	for _, bad := range badDesks() {
		if len(bad.Moments.List)+len(bad.Jacobi.Alpha) < 1000 {
			impl.IsDesk(guardedDesk(g, bad))
			impl.RunLine(guardedDesk(g, bad), "double")
		}
	}
	impl.IsDesk(guardedDesk(g, ready()))
	if !g.unchanged() {
		t.Errorf("a function of the console changed an argument")
	}
}

func TestConsolesSideBySide(t *testing.T) {
	calls := []func() result{func() result { return deskResult(impl.NewDesk(), "") }}
	for _, r := range consoleRows {
		calls = append(calls, func() result { return deskResult(impl.RunLine(ready(), r.ordinary)) })
		calls = append(calls, func() result {
			after, _ := impl.DeskAfter("prime 7\n" + r.ordinary)
			return deskResult(after, impl.Console("named hermite 7\n"+r.ordinary+"\nshow\ndata\nlook"))
		})
	}
	sameSideBySide(t, calls)
}
