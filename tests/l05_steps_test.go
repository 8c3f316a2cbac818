package tests

import (
	"fmt"
	"slices"
	"testing"

	"loop.example/g01283/impl"
)

func TestStepsOf(t *testing.T) {
	d := &dice{121}
	none, early := 0, 0
	for _, p := range somePrimes {
		all := someMoments(d, p)
		for n := 1; n <= impl.MaxMoments; n++ {
			for count := 1; count <= n; count += 1 + n/4 {
				all = append(all, of(p, slowMomentsOfSteps(p, d.nonzero(p, count), n)...))
			}
		}
		for _, m := range all {
			name := fmt.Sprintf("StepsOf %v", m)
			r := listResult(impl.StepsOf(m))
			want, ok := slowSteps(m)
			if !ok {
				fails(t, name, r, impl.ErrState)
				none++
				continue
			}
			lists(t, name, r, want)
			if len(want) < len(m.List) {
				early++
			}
			if len(want) > 0 {
				moments(t, "MomentsOfSteps of "+name, momentsResult(impl.MomentsOfSteps(p, r.lists[0], int64(len(m.List)))), p, m.List...)
			}
		}
	}
	if none == 0 || early == 0 {
		t.Errorf("%d moments had no steps, %d fewer than moments", none, early)
	}
	lists(t, "StepsOf", listResult(impl.StepsOf(of(7, 1, 1, 2, 5, 0))), []int64{1, 1, 1, 1, 1})
	lists(t, "StepsOf", listResult(impl.StepsOf(of(7, 3, 6, 5, 3))), []int64{3, 2})
	lists(t, "StepsOf one moment", listResult(impl.StepsOf(of(7, 4))), []int64{4})
	lists(t, "StepsOf one moment behind which there are zeros", listResult(impl.StepsOf(of(7, 4, 0, 0))), []int64{4})
	lists(t, "StepsOf zeros", listResult(impl.StepsOf(of(7, make([]int64, 24)...))), nil)
	lists(t, "StepsOf 0", listResult(impl.StepsOf(of(2, 0))), nil)
	fails(t, "StepsOf moments that begin with 0", listResult(impl.StepsOf(of(7, 0, 1))), impl.ErrState)
	fails(t, "StepsOf moments that begin with zeros", listResult(impl.StepsOf(of(7, append(make([]int64, 23), 1)...))), impl.ErrState)
	fails(t, "StepsOf without a second step", listResult(impl.StepsOf(of(7, 1, 0, 1))), impl.ErrState)
	fails(t, "StepsOf without a third step", listResult(impl.StepsOf(of(7, 1, 1, 1, 2))), impl.ErrState)
}

// TestAllSteps finds the steps of all moments: those which lead to them, and no others.
func TestAllSteps(t *testing.T) {
	for _, c := range []struct {
		p int64
		n int
	}{{2, 1}, {2, 4}, {2, 8}, {3, 1}, {3, 3}, {3, 6}, {5, 4}} {
		known := map[string][]int64{}
		for count := 1; count <= c.n; count++ {
			for _, steps := range allLists(c.p, count) {
				if !slices.Contains(steps, 0) {
					known[fmt.Sprint(slowMomentsOfSteps(c.p, steps, c.n))] = steps
				}
			}
		}
		known[fmt.Sprint(make([]int64, c.n))] = nil
		for _, list := range allLists(c.p, c.n) {
			name := fmt.Sprintf("StepsOf %d, %v", c.p, list)
			r := listResult(impl.StepsOf(of(c.p, list...)))
			if steps, ok := known[fmt.Sprint(list)]; ok {
				lists(t, name, r, steps)
			} else {
				fails(t, name, r, impl.ErrState)
			}
		}
	}
}

func TestMomentsOfSteps(t *testing.T) {
	d := &dice{122}
	for _, p := range somePrimes {
		for count := 1; count <= impl.MaxSeries; count++ {
			steps := d.nonzero(p, count)
			greatest := slices.Repeat([]int64{p - 1}, count)
			withLast0 := append(d.nonzero(p, count-1), 0)
			for n := 1; n <= impl.MaxSeries; n++ {
				for _, list := range [][]int64{steps, greatest, withLast0} {
					name := fmt.Sprintf("MomentsOfSteps %d, %v and %d", p, list, n)
					moments(t, name, momentsResult(impl.MomentsOfSteps(p, list, int64(n))), p, slowMomentsOfSteps(p, list, n)...)
				}
			}
			m, _ := impl.MomentsOfSteps(p, steps, int64(count))
			lists(t, "StepsOf MomentsOfSteps", listResult(impl.StepsOf(m)), steps)
			m, _ = impl.MomentsOfSteps(p, steps, impl.MaxSeries)
			lists(t, "StepsOf more MomentsOfSteps", listResult(impl.StepsOf(m)), steps)
			m, _ = impl.MomentsOfSteps(p, withLast0, impl.MaxSeries)
			lists(t, "StepsOf MomentsOfSteps with 0 at the end", listResult(impl.StepsOf(m)), withLast0[:count-1])
		}
	}
	moments(t, "MomentsOfSteps", momentsResult(impl.MomentsOfSteps(7, []int64{1, 1, 1, 1, 1}, 5)), 7, 1, 1, 2, 5, 0)
	moments(t, "MomentsOfSteps", momentsResult(impl.MomentsOfSteps(7, []int64{3, 2}, 4)), 7, 3, 6, 5, 3)
	moments(t, "MomentsOfSteps of one", momentsResult(impl.MomentsOfSteps(7, []int64{3}, 3)), 7, 3, 0, 0)
	moments(t, "MomentsOfSteps of 0", momentsResult(impl.MomentsOfSteps(7, []int64{0}, 3)), 7, 0, 0, 0)
	moments(t, "MomentsOfSteps with 0 at the end", momentsResult(impl.MomentsOfSteps(7, []int64{3, 2, 0}, 4)), 7, 3, 6, 5, 3)
}

func TestStepsThatAre0(t *testing.T) {
	d := &dice{123}
	for _, p := range somePrimes {
		for count := 2; count <= impl.MaxSeries; count++ {
			for k := range count - 1 {
				steps := d.nonzero(p, count)
				steps[k] = 0
				// Also where the numbers asked for do not reach as far.
				fails(t, "MomentsOfSteps with 0 inside", momentsResult(impl.MomentsOfSteps(p, steps, 1)), impl.ErrState)
				steps[count-1] = 0
				fails(t, "MomentsOfSteps with 0 twice", momentsResult(impl.MomentsOfSteps(p, steps, 24)), impl.ErrState)
			}
		}
	}
}

func TestJacobiOfSteps(t *testing.T) {
	d := &dice{124}
	for _, p := range somePrimes {
		for r := 1; r <= impl.MaxRows; r++ {
			for _, steps := range [][]int64{d.nonzero(p, 2*r), slices.Repeat([]int64{p - 1}, 2*r), append(d.nonzero(p, 2*r-1), 0)} {
				name := fmt.Sprintf("JacobiOfSteps %d, %v", p, steps)
				j := jacobiResult(impl.JacobiOfSteps(p, steps))
				isData(t, name, j, slowJacobiOfSteps(p, steps))
				// The moments of the steps are those of the data.
				m, _ := impl.MomentsOfSteps(p, steps, int64(2*r))
				moments(t, name, momentsResult(impl.MomentsOfJacobi(data(p, j.lists[0], j.lists[1]), int64(2*r))), p, m.List...)
			}
			checkZerosOfData(t, d, p, r)
		}
	}
	isData(t, "JacobiOfSteps", jacobiResult(impl.JacobiOfSteps(7, []int64{1, 1, 1, 1})), data(7, []int64{1, 2}, []int64{1, 1}))
	isData(t, "JacobiOfSteps of two", jacobiResult(impl.JacobiOfSteps(7, []int64{3, 5})), data(7, []int64{5}, []int64{3}))
	isData(t, "JacobiOfSteps of two with 0", jacobiResult(impl.JacobiOfSteps(7, []int64{3, 0})), data(7, []int64{0}, []int64{3}))
	isData(t, "JacobiOfSteps of six", jacobiResult(impl.JacobiOfSteps(7, []int64{1, 2, 3, 4, 5, 6})), data(7, []int64{2, 0, 4}, []int64{1, 6, 6}))
	fails(t, "JacobiOfSteps of zeros", jacobiResult(impl.JacobiOfSteps(7, make([]int64, 24))), impl.ErrState)
}

// checkZerosOfData checks that any 0 but the last one makes a Beta of 0.
func checkZerosOfData(t *testing.T, d *dice, p int64, r int) {
	t.Helper()
	for k := range 2*r - 1 {
		steps := d.nonzero(p, 2*r)
		steps[k] = 0
		fails(t, fmt.Sprintf("JacobiOfSteps %v", steps), jacobiResult(impl.JacobiOfSteps(p, steps)), impl.ErrState)
	}
}

// TestStepsAndData checks that the steps of moments have their Jacobi data.
func TestStepsAndData(t *testing.T) {
	d := &dice{125}
	count := 0
	for _, p := range somePrimes {
		for _, m := range someMoments(d, p) {
			steps, _ := impl.StepsOf(m)
			for r := 1; 2*r <= len(steps); r++ {
				want, _ := impl.JacobiOfMoments(m, int64(r))
				isData(t, "JacobiOfSteps of StepsOf", jacobiResult(impl.JacobiOfSteps(p, steps[:2*r])), want)
				count++
			}
		}
	}
	if count == 0 {
		t.Errorf("no moments had steps")
	}
}
