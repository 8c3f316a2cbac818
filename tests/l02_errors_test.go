package tests

import (
	"fmt"
	"math"
	"testing"

	"loop.example/g01283/impl"
)

// momentsCall is a function of chapter 2 that takes moments, and perhaps second ones, a polynomial,
// or numbers.
type momentsCall struct {
	name   string
	second bool
	poly   bool
	call   func(m, o impl.Moments, f []int64, a, b int64) result
}

var momentsCalls = []momentsCall{
	{"ApplyFunctional", false, true, func(m, o impl.Moments, f []int64, a, b int64) result {
		return numResult(impl.ApplyFunctional(m, f))
	}},
	{"HankelDeterminant", false, false, func(m, o impl.Moments, f []int64, a, b int64) result {
		return numResult(impl.HankelDeterminant(m, a))
	}},
	{"OrderOf", false, false, func(m, o impl.Moments, f []int64, a, b int64) result { return numResult(impl.OrderOf(m)) }},
	{"ShiftMoments", false, false, func(m, o impl.Moments, f []int64, a, b int64) result {
		return momentsResult(impl.ShiftMoments(m))
	}},
	{"AffineMoments", false, false, func(m, o impl.Moments, f []int64, a, b int64) result {
		return momentsResult(impl.AffineMoments(m, a, b))
	}},
	{"AddMoments", true, false, func(m, o impl.Moments, f []int64, a, b int64) result {
		return momentsResult(impl.AddMoments(m, o, a))
	}},
	{"CutMoments", false, false, func(m, o impl.Moments, f []int64, a, b int64) result {
		return momentsResult(impl.CutMoments(m, a))
	}},
	{"ProductMoments", false, true, func(m, o impl.Moments, f []int64, a, b int64) result {
		return momentsResult(impl.ProductMoments(m, f))
	}},
}

func TestNoMomentsComeFirst(t *testing.T) {
	good := of(7, 1, 2, 3)
	for _, c := range momentsCalls {
		for _, bad := range badMoments() {
			name := fmt.Sprintf("%s of no moments, of the prime %d", c.name, bad.Prime)
			// Numbers out of their ranges and too great a degree come later.
			for _, a := range append([]int64{0, 1, 7, 25}, extremes...) {
				fails(t, name, c.call(bad, good, longest(7), a, a), impl.ErrInvalid)
				fails(t, name, c.call(bad, bad, nil, a, 1), impl.ErrInvalid)
				if c.second {
					fails(t, name+" in the second place", c.call(good, bad, nil, a, a), impl.ErrInvalid)
				}
			}
		}
	}
}

func TestNoPolynomialsOfMoments(t *testing.T) {
	for _, c := range momentsCalls {
		for _, p := range []int64{2, 7, 10007} {
			for _, bad := range badPolys(p) {
				if c.poly {
					fails(t, fmt.Sprintf("%s of %v", c.name, bad), c.call(of(p, 1), of(p, 1), bad, 0, 0), impl.ErrInvalid)
					fails(t, fmt.Sprintf("%s of %v", c.name, bad), c.call(of(p, make([]int64, 24)...), of(p, 1), bad, 0, 0), impl.ErrInvalid)
				}
			}
		}
	}
}

func TestNumbersOfMomentsOutOfRange(t *testing.T) {
	for _, p := range somePrimes {
		m := of(p, 1, 0, 1)
		for _, x := range append([]int64{p, p + 1}, extremes...) {
			fails(t, "AffineMoments", momentsResult(impl.AffineMoments(m, x, 0)), impl.ErrRange)
			fails(t, "AffineMoments", momentsResult(impl.AffineMoments(m, 0, x)), impl.ErrRange)
			fails(t, "AffineMoments", momentsResult(impl.AffineMoments(m, x, x)), impl.ErrRange)
			fails(t, "AddMoments", momentsResult(impl.AddMoments(m, m, x)), impl.ErrRange)
		}
		moments(t, "AffineMoments for the greatest numbers", momentsResult(impl.AffineMoments(m, p-1, p-1)), p, slowAffine(m, p-1, p-1)...)
	}
}

func TestMomentsThatDoNotMatch(t *testing.T) {
	for _, k := range []int64{0, 1, 2, 6, 7, -1, math.MaxInt64} {
		fails(t, "AddMoments for different primes", momentsResult(impl.AddMoments(of(5, 1, 2), of(7, 1, 2), k)), impl.ErrRange)
		fails(t, "AddMoments for different primes", momentsResult(impl.AddMoments(of(7, 1, 2), of(5, 1, 2), k)), impl.ErrRange)
		fails(t, "AddMoments of fewer", momentsResult(impl.AddMoments(of(7, 1, 2), of(7, 1), k)), impl.ErrRange)
		fails(t, "AddMoments of more", momentsResult(impl.AddMoments(of(7, 1), of(7, 1, 2), k)), impl.ErrRange)
	}
}

// TestAnyMoments calls all functions with all arguments of a grid: none panics, and beside an error
// nothing is returned.
func TestAnyMoments(t *testing.T) {
	numbers := append([]int64{0, 1, 2, 3, 12, 13, 24, 25, 10006, 10007}, noPrimes...)
	someLists := append(badPolys(7), nil, []int64{1}, []int64{0, 1}, longest(2), longest(7), ofDegree(24))
	someMoments := append(badMoments(), of(7, 0), of(7, 1, 2), of(2, longest(2)[1:]...), of(10007, longest(10007)[1:]...))
	for _, m := range someMoments {
		impl.AreMoments(m)
		for _, c := range momentsCalls {
			for _, o := range someMoments {
				sound(t, c.name, c.call(m, o, longest(7), 1, 1))
			}
			for _, f := range someLists {
				sound(t, c.name, c.call(m, m, f, 1, 1))
			}
			for _, a := range numbers {
				for _, b := range numbers {
					sound(t, c.name, c.call(m, m, nil, a, b))
				}
			}
		}
	}
	for _, p := range append([]int64{2, 3, 7, 10007}, noPrimes...) {
		for _, n := range numbers {
			for _, name := range append(momentNames, noNames...) {
				sound(t, "NamedMoments", momentsResult(impl.NamedMoments(name, p, n)))
			}
			for _, f := range someLists {
				for _, g := range someLists {
					sound(t, "MomentsOfNodes", momentsResult(impl.MomentsOfNodes(p, f, g, n)))
				}
			}
		}
	}
}
