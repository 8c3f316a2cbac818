package tests

import (
	"fmt"
	"math"
	"slices"
	"testing"

	"loop.example/g01283/impl"
)

// changeArguments are what functions of chapter 8 take: moments or data, and numbers.
type changeArguments struct {
	m    impl.Moments
	j    impl.Jacobi
	a, b int64
}

// changeCall is a function of chapter 8 that takes moments, or else data, and at most two numbers; its
// ranges are the limits of these numbers for the prime p.
type changeCall struct {
	name    string
	moments bool
	ranges  func(p int64) [][2]int64
	call    func(x changeArguments) result
}

func modulo2(p int64) [][2]int64 { return [][2]int64{{0, p - 1}, {0, p - 1}} }

var changeCalls = []changeCall{
	{"MultiplyMoments", true, modulo1, func(x changeArguments) result { return momentsResult(impl.MultiplyMoments(x.m, x.a)) }},
	{"DivideMoments", true, modulo2, func(x changeArguments) result { return momentsResult(impl.DivideMoments(x.m, x.a, x.b)) }},
	{"AddMass", true, modulo2, func(x changeArguments) result { return momentsResult(impl.AddMass(x.m, x.a, x.b)) }},
	{"StepOfJacobi", false, modulo1, func(x changeArguments) result { return jacobiResult(impl.StepOfJacobi(x.j, x.a)) }},
	{"StepBack", false, func(p int64) [][2]int64 { return [][2]int64{{0, p - 1}, {1, p - 1}} }, func(x changeArguments) result {
		return jacobiResult(impl.StepBack(x.j, x.a, x.b))
	}},
	{"HalveJacobi", false, noRanges, func(x changeArguments) result { return jacobiResult(impl.HalveJacobi(x.j)) }},
	{"AreSymmetric", true, noRanges, func(x changeArguments) result { return boolResult(impl.AreSymmetric(x.m)) }},
	{"HalveMoments", true, noRanges, func(x changeArguments) result { return momentsResult(impl.HalveMoments(x.m)) }},
	{"DoubleMoments", true, noRanges, func(x changeArguments) result { return momentsResult(impl.DoubleMoments(x.m)) }},
	{"ScaleJacobi", false, func(p int64) [][2]int64 { return [][2]int64{{1, p - 1}} }, func(x changeArguments) result {
		return jacobiResult(impl.ScaleJacobi(x.j, x.a))
	}},
	{"StepsOfJacobi", false, func(p int64) [][2]int64 { return [][2]int64{{0, p - 1}, {0, 12}} }, func(x changeArguments) result {
		return jacobisResult(impl.StepsOfJacobi(x.j, x.a, x.b))
	}},
}

// laterChanges have other things wrong, the codes for which come later than ErrRange: one moment or 24
// of them, some that are not symmetric, and data of one number, or without steps, or not symmetric.
func laterChanges(p int64) []changeArguments {
	all := []changeArguments{
		{of(p, 1, 0, 1), data(p, []int64{0, 0}, []int64{1, 1}), 0, 0},
		{of(p, 1), data(p, []int64{1}, []int64{1}), 0, 0},
		{of(p, 0, 1), data(p, []int64{1, 0, 1}, []int64{1, 1, 1}), 0, 0},
	}
	full := of(p, slices.Repeat([]int64{1}, 24)...)
	for _, c := range []int64{0, 1, p - 1} {
		all = append(all, changeArguments{full, data(p, slices.Repeat([]int64{c}, 12), slices.Repeat([]int64{1}, 12)), 0, 0})
	}
	return all
}

func TestNothingToChange(t *testing.T) {
	someMoments, jacobis := badMoments(), badData()
	for _, c := range changeCalls {
		for _, x := range laterChanges(7) {
			// Numbers out of their ranges come later, as does all that is not as told.
			for _, a := range append([]int64{0, 1, 6, 7, 13}, extremes...) {
				x.a, x.b = a, 1
				checkNothing(t, c, x, someMoments, jacobis)
				x.a, x.b = 1, a
				checkNothing(t, c, x, someMoments, jacobis)
			}
		}
	}
}

// checkNothing puts what is none in the place of the moments or data.
func checkNothing(t *testing.T, c changeCall, x changeArguments, someMoments []impl.Moments, jacobis []impl.Jacobi) {
	t.Helper()
	if c.moments {
		for _, bad := range someMoments {
			x.m = bad
			fails(t, fmt.Sprintf("%s of no moments, of the prime %d", c.name, bad.Prime), c.call(x), impl.ErrInvalid)
		}
		return
	}
	for _, bad := range jacobis {
		x.j = bad
		fails(t, fmt.Sprintf("%s of no data, of the prime %d", c.name, bad.Prime), c.call(x), impl.ErrInvalid)
	}
}

func TestNumbersOfChangesOutOfRange(t *testing.T) {
	for _, c := range changeCalls {
		for _, p := range somePrimes {
			for i, limits := range c.ranges(p) {
				for _, x := range laterChanges(p) {
					checkChangeLimits(t, c, x, i, limits)
				}
			}
		}
	}
}

// checkChangeLimits replaces one of good numbers by its limits, and by what is beyond them.
func checkChangeLimits(t *testing.T, c changeCall, x changeArguments, i int, limits [2]int64) {
	t.Helper()
	call := func(n int64) result {
		numbers := [2]int64{1, 1}
		numbers[i] = n
		x.a, x.b = numbers[0], numbers[1]
		return c.call(x)
	}
	for _, n := range limits {
		if r := call(n); r.code != impl.ErrNone && r.code != impl.ErrState && r.code != impl.ErrLimit {
			t.Errorf("%s with the number %d in %v: code %d", c.name, n, limits, r.code)
		}
	}
	for _, n := range append([]int64{limits[0] - 1, limits[1] + 1, limits[1] + 2, math.MinInt32}, extremes...) {
		name := fmt.Sprintf("%s with the number %d not in %v", c.name, n, limits)
		fails(t, name, call(n), impl.ErrRange)
		x.a, x.b = n, n
		fails(t, name+", twice", c.call(x), impl.ErrRange)
	}
}

// TestNoStepsOutOfRange checks that c has to be in its range even if there are no steps, or too many.
func TestNoStepsOutOfRange(t *testing.T) {
	for _, p := range somePrimes {
		for _, x := range laterChanges(p) {
			for _, c := range append([]int64{-1, p, p + 1, math.MinInt32}, extremes...) {
				for _, n := range []int64{0, 1, 11, 12} {
					fails(t, fmt.Sprintf("StepsOfJacobi for %d by %d, %d of them", p, c, n), jacobisResult(impl.StepsOfJacobi(x.j, c, n)), impl.ErrRange)
				}
			}
		}
	}
}

// TestLimitsOfChanges checks that the limits of numbers are accepted, where nothing else is wrong.
func TestLimitsOfChanges(t *testing.T) {
	good := func(name string, r result) {
		t.Helper()
		if r.code != impl.ErrNone {
			t.Errorf("%s: code %d", name, r.code)
		}
	}
	d := &dice{261}
	for _, p := range somePrimes {
		m := d.moments(p, 23)
		for _, a := range []int64{0, p - 1} {
			good("MultiplyMoments", momentsResult(impl.MultiplyMoments(m, a)))
			for _, b := range []int64{0, p - 1} {
				good("DivideMoments", momentsResult(impl.DivideMoments(m, a, b)))
				good("AddMass", momentsResult(impl.AddMass(m, a, b)))
			}
			j := d.steppable(p, 12, a, 1)
			good("StepOfJacobi", jacobiResult(impl.StepOfJacobi(j, a)))
			good("StepsOfJacobi, none", jacobisResult(impl.StepsOfJacobi(j, a, 0)))
			good("StepsOfJacobi, one", jacobisResult(impl.StepsOfJacobi(j, a, 1)))
			for _, q := range []int64{1, p - 1} {
				// All e(k) and q(k) are q, but e(0), which is 0.
				back := data(p, slices.Repeat([]int64{(2*q + a) % p}, 12), slices.Repeat([]int64{q * q % p}, 12))
				good("StepBack", jacobiResult(impl.StepBack(back, a, q)))
				good("ScaleJacobi", jacobiResult(impl.ScaleJacobi(j, q)))
			}
		}
		fails(t, "StepsOfJacobi, 12 of them", jacobisResult(impl.StepsOfJacobi(d.data(p, 12), 0, 12)), impl.ErrState)
		fails(t, "StepsOfJacobi, 13 of them", jacobisResult(impl.StepsOfJacobi(d.data(p, 12), 0, 13)), impl.ErrRange)
	}
}

// TestAnyChanges calls all functions with all arguments of a grid: none panics, and beside an error
// nothing is returned.
func TestAnyChanges(t *testing.T) {
	d := &dice{262}
	numbers := append([]int64{0, 1, 2, 6, 7, 11, 12, 13, 10006, 10007}, extremes...)
	var all []changeArguments
	for _, p := range []int64{2, 7, 10007} {
		all = append(all, laterChanges(p)...)
		all = append(all, changeArguments{d.moments(p, 24), d.data(p, 12), 0, 0}, changeArguments{d.moments(p, 12), d.symmetric(p, 12), 0, 0})
	}
	for _, m := range badMoments() {
		all = append(all, changeArguments{m: m, j: impl.Jacobi{Prime: m.Prime, Alpha: m.List, Beta: m.List}})
	}
	for _, j := range badData() {
		all = append(all, changeArguments{m: of(j.Prime, j.Alpha...), j: j})
	}
	for _, x := range all {
		for _, c := range changeCalls {
			for _, a := range numbers {
				for _, b := range numbers {
					x.a, x.b = a, b
					sound(t, c.name, c.call(x))
				}
			}
		}
	}
}
