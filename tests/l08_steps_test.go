package tests

import (
	"fmt"
	"slices"
	"testing"

	"loop.example/g01283/impl"
)

// momentsOf returns all moments that data tell.
func momentsOf(j impl.Jacobi) impl.Moments {
	m, _ := impl.MomentsOfJacobi(j, 2*int64(len(j.Alpha)))
	return m
}

// checkBelongs checks the data of n numbers that arise by a step, or a step back: they are those wanted,
// and belong to some moments, or there are none, and these moments have no data either. It reports
// whether there are data.
func checkBelongs(t *testing.T, name string, arisen result, want impl.Jacobi, ok bool, m impl.Moments, n int64) bool {
	t.Helper()
	found := jacobiResult(impl.JacobiOfMoments(m, n))
	if !ok {
		fails(t, name, arisen, impl.ErrState)
		fails(t, name+" by the moments", found, impl.ErrState)
		return false
	}
	isData(t, name, arisen, want)
	isData(t, name+" by the moments", found, want)
	moments(t, name+", its moments", momentsResult(momentsOf(want), impl.ErrNone), m.Prime, m.List[:2*n]...)
	return true
}

// checkStep checks a step, and the promises that it belongs to the multiplied moments and undoes a step
// back. It reports whether there is one.
func checkStep(t *testing.T, j impl.Jacobi, c int64) bool {
	t.Helper()
	name, n := fmt.Sprintf("StepOfJacobi %v by %d", j, c), int64(len(j.Alpha))
	step, code := impl.StepOfJacobi(j, c)
	if n == 1 {
		fails(t, name, jacobiResult(step, code), impl.ErrState)
		return false
	}
	want, ok := slowStep(j, c)
	multiplied, _ := impl.MultiplyMoments(momentsOf(j), c)
	if !checkBelongs(t, name, jacobiResult(step, code), want, ok, multiplied, n-1) {
		return false
	}
	isData(t, name+", back", jacobiResult(impl.StepBack(step, c, modulo(j.Prime, j.Alpha[0]-c))), data(j.Prime, j.Alpha[:n-1], j.Beta[:n-1]))
	return true
}

// checkBack checks a step back, and the promises that it belongs to the divided moments and is undone
// by a step. It reports whether there is one.
func checkBack(t *testing.T, j impl.Jacobi, c, q int64) bool {
	t.Helper()
	p, name, n := j.Prime, fmt.Sprintf("StepBack %v by %d with %d", j, c, q), int64(len(j.Alpha))
	back, code := impl.StepBack(j, c, q)
	want, ok := slowBack(j, c, q)
	divided, _ := impl.DivideMoments(of(p, momentsOf(j).List[:2*n-1]...), c, j.Beta[0]*slowInverse(p, q)%p)
	if !checkBelongs(t, name, jacobiResult(back, code), want, ok, divided, n) {
		return false
	}
	if n > 1 {
		isData(t, name+", a step", jacobiResult(impl.StepOfJacobi(back, c)), data(p, j.Alpha[:n-1], j.Beta[:n-1]))
	}
	return true
}

func TestStepsOfAllData(t *testing.T) {
	for _, s := range smallData {
		for n := 1; n <= s.n; n++ {
			steps, backs, all := 0, 0, 0
			for _, j := range allData(s.p, n, s.b) {
				for c := range s.p {
					if checkStep(t, j, c) {
						steps++
					}
					for q := int64(1); q < s.p; q++ {
						all++
						if checkBack(t, j, c, q) {
							backs++
						}
					}
				}
			}
			if backs == 0 || (backs == all) != (n == 1) || (steps == 0) != (n == 1) {
				t.Errorf("for %d and %d numbers there are %d steps, and %d steps back of %d", s.p, n, steps, backs, all)
			}
		}
	}
}

func TestStepsOfSomeData(t *testing.T) {
	d := &dice{251}
	for _, p := range somePrimes {
		for i, j := range someData(d, p) {
			// The definitions take their time for great primes.
			if p < 1000 || i%5 == int(p%5) {
				for _, c := range someNumbers(d, p) {
					checkStep(t, j, c)
					checkBack(t, j, c, p-1)
					checkBack(t, j, c, 1+d.below(p-1))
				}
			}
		}
	}
}

// TestLastOfStep checks that q(n - 1) may be 0, and all others must not be.
func TestLastOfStep(t *testing.T) {
	d := &dice{252}
	for _, p := range somePrimes {
		for n := 2; n <= impl.MaxRows; n++ {
			for _, c := range someNumbers(d, p) {
				for _, last := range someNumbers(d, p) {
					j := d.steppable(p, n, c, last)
					if !checkStep(t, j, c) {
						t.Errorf("StepOfJacobi %v by %d is none", j, c)
					}
				}
			}
			c := d.below(p)
			j := d.steppable(p, n, c, 1)
			for k := range n - 1 {
				// P(k + 1) is 0 at c with this number.
				before := int64(0)
				if k > 0 {
					before = j.Beta[k] * slowValue(p, slowPoly(j, k-1), c) % p
				}
				zero := with(j, k, c-before*slowInverse(p, slowValue(p, slowPoly(j, k), c)))
				fails(t, fmt.Sprintf("StepOfJacobi %v by %d", zero, c), jacobiResult(impl.StepOfJacobi(zero, c)), impl.ErrState)
			}
		}
	}
}

// TestLastOfStepBack checks that e(n) is not needed, and e(1) to e(n - 1) must not be 0. What goes back
// from a step, with its q(0), has the numbers q(k) and e(k) of the step.
func TestLastOfStepBack(t *testing.T) {
	d := &dice{253}
	for _, p := range somePrimes {
		for n := 1; n < impl.MaxRows; n++ {
			c := d.below(p)
			j := d.steppable(p, n+1, c, 1)
			q := modulo(p, j.Alpha[0]-c)
			step, _ := impl.StepOfJacobi(j, c)
			for _, last := range someNumbers(d, p) {
				if !checkBack(t, with(step, n-1, last), c, q) {
					t.Errorf("StepBack %v by %d with %d and %d is none", step, c, q, last)
				}
			}
			for k := range n - 1 {
				// Alpha[k] less c is q(k), and so e(k + 1) is 0.
				value, before := slowValue(p, slowPoly(j, k+1), c), slowValue(p, slowPoly(j, k), c)
				zero := with(step, k, c-value*slowInverse(p, before))
				fails(t, fmt.Sprintf("StepBack %v by %d with %d", zero, c, q), jacobiResult(impl.StepBack(zero, c, q)), impl.ErrState)
			}
		}
	}
}

func TestStepOfJacobi(t *testing.T) {
	j := data(7, []int64{1, 2}, []int64{1, 1})
	isData(t, "StepOfJacobi", jacobiResult(impl.StepOfJacobi(j, 2)), data(7, []int64{0}, []int64{6}))
	isData(t, "StepOfJacobi by 0", jacobiResult(impl.StepOfJacobi(j, 0)), data(7, []int64{2}, []int64{1}))
	// q(0) is 1, e(1) is 1, and so q(1) is 0: the last one.
	isData(t, "StepOfJacobi with 0 at last", jacobiResult(impl.StepOfJacobi(data(7, []int64{1, 1}, []int64{3, 1}), 0)), data(7, []int64{2}, []int64{3}))
	fails(t, "StepOfJacobi with 0 inside", jacobiResult(impl.StepOfJacobi(data(7, []int64{1, 1, 5}, []int64{3, 1, 1}), 0)), impl.ErrState)
	fails(t, "StepOfJacobi with 0 at first", jacobiResult(impl.StepOfJacobi(j, 1)), impl.ErrState)
	fails(t, "StepOfJacobi of one number", jacobiResult(impl.StepOfJacobi(data(7, []int64{1}, []int64{1}), 0)), impl.ErrState)
	isData(t, "StepOfJacobi of three numbers", jacobiResult(impl.StepOfJacobi(data(7, []int64{1, 2, 2}, []int64{1, 1, 1}), 0)), data(7, []int64{2, 2}, []int64{1, 1}))
}

func TestStepBack(t *testing.T) {
	isData(t, "StepBack", jacobiResult(impl.StepBack(data(7, []int64{0}, []int64{6}), 2, 6)), data(7, []int64{1}, []int64{1}))
	isData(t, "StepBack of one number", jacobiResult(impl.StepBack(data(7, []int64{5}, []int64{3}), 4, 2)), data(7, []int64{6}, []int64{5}))
	isData(t, "StepBack of one number that is q and c", jacobiResult(impl.StepBack(data(7, []int64{5}, []int64{3}), 4, 1)), data(7, []int64{5}, []int64{3}))
	isData(t, "StepBack of two numbers", jacobiResult(impl.StepBack(data(7, []int64{2, 2}, []int64{1, 1}), 0, 1)), data(7, []int64{1, 2}, []int64{1, 1}))
	isData(t, "StepBack of two numbers by 3", jacobiResult(impl.StepBack(data(7, []int64{5, 5}, []int64{1, 1}), 3, 1)), data(7, []int64{4, 5}, []int64{1, 1}))
	fails(t, "StepBack with 0 at first", jacobiResult(impl.StepBack(data(7, []int64{1, 2}, []int64{1, 1}), 0, 1)), impl.ErrState)
	fails(t, "StepBack with 0 inside", jacobiResult(impl.StepBack(data(7, []int64{2, 1, 2}, []int64{1, 1, 1}), 0, 1)), impl.ErrState)
	isData(t, "StepBack with 0 at last", jacobiResult(impl.StepBack(data(7, []int64{2, 1}, []int64{1, 1}), 0, 1)), data(7, []int64{1, 2}, []int64{1, 1}))
}

// checkSteps checks n steps, each of which belongs to the moments multiplied once more. It reports
// whether there are n.
func checkSteps(t *testing.T, j impl.Jacobi, c int64, n int) bool {
	t.Helper()
	name := fmt.Sprintf("StepsOfJacobi %v by %d, %d of them", j, c, n)
	all, code := impl.StepsOfJacobi(j, c, int64(n))
	want, ok := slowStepsOfJacobi(j, c, n)
	if !ok {
		fails(t, name, jacobisResult(all, code), impl.ErrState)
		return false
	}
	if r := jacobisResult(all, code); len(all) != n+1 || !r.equals(jacobisResult(want, impl.ErrNone)) {
		t.Errorf("%s = %v, code %d, want %v", name, all, code, want)
	}
	m := momentsOf(j)
	for k, step := range all {
		moments(t, name+", the moments", momentsResult(momentsOf(step), impl.ErrNone), j.Prime, m.List[:2*(len(j.Alpha)-k)]...)
		m, _ = impl.MultiplyMoments(m, c)
	}
	return true
}

func TestStepsOfJacobi(t *testing.T) {
	d := &dice{254}
	for _, p := range somePrimes {
		most := 0
		for i, j := range someData(d, p) {
			c := d.below(p)
			if checkSteps(t, j, c, 0); p > 1000 && i%5 != int(p%5) {
				continue
			}
			for n := 1; n <= impl.MaxRows; n++ {
				if !checkSteps(t, j, c, n) {
					break
				}
				most = max(most, n)
			}
		}
		if p > 1000 && most < 8 {
			t.Errorf("for %d there are %d steps at most", p, most)
		}
	}
	for _, s := range smallData {
		for n := 1; n <= s.n; n++ {
			for _, j := range allData(s.p, n, s.b) {
				for k := range n + 1 {
					checkSteps(t, j, s.p-1, k)
				}
			}
		}
	}
}

// TestMostSteps checks that data have at most one step less than numbers.
func TestMostSteps(t *testing.T) {
	d := &dice{255}
	for _, p := range []int64{101, 9973, 10007} {
		for n := 1; n <= impl.MaxRows; n++ {
			found := false
			for range 20 {
				j, c := d.data(p, n), d.below(p)
				all, code := impl.StepsOfJacobi(j, c, int64(n)-1)
				found = found || code == impl.ErrNone && len(all) == n && len(all[n-1].Alpha) == 1
				for k := int64(n); k <= impl.MaxRows; k++ {
					fails(t, fmt.Sprintf("StepsOfJacobi of %d numbers, %d of them", n, k), jacobisResult(impl.StepsOfJacobi(j, c, k)), impl.ErrState)
				}
			}
			if !found {
				t.Errorf("no data of %d numbers for %d had %d steps", n, p, n-1)
			}
		}
	}
	j := data(7, []int64{1, 2}, []int64{1, 1})
	isSteps := func(name string, r result, want ...impl.Jacobi) {
		t.Helper()
		if !r.equals(jacobisResult(want, impl.ErrNone)) {
			t.Errorf("%s = %v, want %v", name, r, want)
		}
	}
	isSteps("StepsOfJacobi", jacobisResult(impl.StepsOfJacobi(j, 2, 1)), j, data(7, []int64{0}, []int64{6}))
	isSteps("StepsOfJacobi, none", jacobisResult(impl.StepsOfJacobi(j, 1, 0)), j)
	isSteps("StepsOfJacobi of one number, none", jacobisResult(impl.StepsOfJacobi(data(7, []int64{1}, []int64{1}), 1, 0)), data(7, []int64{1}, []int64{1}))
	fails(t, "StepsOfJacobi, two of two numbers", jacobisResult(impl.StepsOfJacobi(j, 2, 2)), impl.ErrState)
	fails(t, "StepsOfJacobi with 0 at first", jacobisResult(impl.StepsOfJacobi(j, 1, 1)), impl.ErrState)
	three := data(7, []int64{1, 2, 2}, []int64{1, 1, 1})
	isSteps("StepsOfJacobi, two of them", jacobisResult(impl.StepsOfJacobi(three, 0, 2)), three, data(7, []int64{2, 2}, []int64{1, 1}), data(7, []int64{6}, []int64{2}))
	// The first step by 3 has 3 as Alpha[0].
	late := data(7, []int64{4, 3, 2}, []int64{1, 6, 1})
	isSteps("StepsOfJacobi, one of them", jacobisResult(impl.StepsOfJacobi(late, 3, 1)), late, data(7, []int64{3, 5}, []int64{1, 6}))
	fails(t, "StepsOfJacobi with 0 in the second step", jacobisResult(impl.StepsOfJacobi(late, 3, 2)), impl.ErrState)
}

// TestHalveJacobi checks also the promise that halves belong to the halves of the moments.
func TestHalveJacobi(t *testing.T) {
	d := &dice{256}
	var all []impl.Jacobi
	for _, p := range somePrimes {
		for n := 1; n <= impl.MaxRows; n++ {
			all = append(all, d.symmetric(p, n), d.symmetric(p, n), data(p, make([]int64, n), slices.Repeat([]int64{p - 1}, n)))
		}
	}
	for _, beta := range allLists(2, 5) {
		for n := 2; n <= 5; n++ {
			all = append(all, data(3, make([]int64, n), addTo(beta[:n], 1)))
		}
	}
	for _, j := range all {
		name, n := fmt.Sprintf("HalveJacobi %v", j), int64(len(j.Alpha)/2)
		halves, code := impl.HalveJacobi(j)
		if n == 0 {
			fails(t, name, jacobiResult(halves, code), impl.ErrState)
			continue
		}
		isData(t, name, jacobiResult(halves, code), slowHalves(j))
		m, code := impl.HalveMoments(momentsOf(j))
		moments(t, name+", the moments", momentsResult(momentsOf(halves), code), j.Prime, m.List[:2*n]...)
		isData(t, name+" by the moments", jacobiResult(impl.JacobiOfMoments(m, n)), halves)
		for k := range j.Alpha {
			fails(t, name+" with another Alpha", jacobiResult(impl.HalveJacobi(with(j, k, 1+d.below(j.Prime-1)))), impl.ErrState)
		}
	}
	isData(t, "HalveJacobi", jacobiResult(impl.HalveJacobi(data(7, make([]int64, 4), []int64{1, 2, 3, 4}))), data(7, []int64{2, 0}, []int64{1, 6}))
	isData(t, "HalveJacobi of five numbers", jacobiResult(impl.HalveJacobi(data(7, make([]int64, 5), []int64{1, 2, 3, 4, 5}))), data(7, []int64{2, 0}, []int64{1, 6}))
	isData(t, "HalveJacobi of two numbers", jacobiResult(impl.HalveJacobi(data(7, make([]int64, 2), []int64{3, 5}))), data(7, []int64{5}, []int64{3}))
	isData(t, "HalveJacobi of three numbers", jacobiResult(impl.HalveJacobi(data(7, make([]int64, 3), []int64{3, 5, 2}))), data(7, []int64{5}, []int64{3}))
	fails(t, "HalveJacobi of one number", jacobiResult(impl.HalveJacobi(data(7, []int64{0}, []int64{3}))), impl.ErrState)
	fails(t, "HalveJacobi of one number other than 0", jacobiResult(impl.HalveJacobi(data(7, []int64{1}, []int64{3}))), impl.ErrState)
}

// addTo returns a list with x added to each number.
func addTo(list []int64, x int64) []int64 {
	sums := slices.Clone(list)
	for i := range sums {
		sums[i] += x
	}
	return sums
}

// TestHalvesOfSymmetricMoments checks that symmetric moments have symmetric data, whose halves are those
// of the halves.
func TestHalvesOfSymmetricMoments(t *testing.T) {
	d := &dice{257}
	found := 0
	for _, p := range somePrimes {
		for range 60 {
			m := of(p, slowDoubled(d.list(p, 12))...)
			order, _ := impl.OrderOf(m)
			n := min(order, 11)
			if n < 2 {
				continue
			}
			found++
			j, _ := impl.JacobiOfMoments(m, n)
			if len(cut(j.Alpha)) > 0 {
				t.Errorf("JacobiOfMoments %v = %v", m, j)
			}
			halves, _ := impl.HalveMoments(m)
			want, _ := impl.JacobiOfMoments(halves, n/2)
			isData(t, fmt.Sprintf("HalveJacobi %v", j), jacobiResult(impl.HalveJacobi(j)), want)
		}
	}
	if found < 100 {
		t.Errorf("only %d moments had data", found)
	}
}

func TestScaleJacobi(t *testing.T) {
	d := &dice{258}
	for _, p := range somePrimes {
		for _, j := range someData(d, p) {
			for _, w := range []int64{1, p - 1, 1 + d.below(p-1)} {
				name := fmt.Sprintf("ScaleJacobi %v by %d", j, w)
				want := data(p, j.Alpha, slices.Clone(j.Beta))
				want.Beta[0] = w * j.Beta[0] % p
				scaled, code := impl.ScaleJacobi(j, w)
				isData(t, name, jacobiResult(scaled, code), want)
				var list []int64
				for _, x := range momentsOf(j).List {
					list = append(list, w*x%p)
				}
				moments(t, name+", its moments", momentsResult(momentsOf(scaled), impl.ErrNone), p, list...)
				isData(t, name+" and back", jacobiResult(impl.ScaleJacobi(scaled, slowInverse(p, w))), j)
			}
		}
	}
	isData(t, "ScaleJacobi", jacobiResult(impl.ScaleJacobi(data(7, []int64{1, 2}, []int64{1, 1}), 4)), data(7, []int64{1, 2}, []int64{4, 1}))
	isData(t, "ScaleJacobi of one number", jacobiResult(impl.ScaleJacobi(data(7, []int64{1}, []int64{5}), 3)), data(7, []int64{1}, []int64{1}))
}
