package tests

import (
	"math"
	"testing"

	"loop.example/g01283/impl"
)

var somePrimes = []int64{2, 3, 5, 7, 11, 97, 101, 9973, 10007}

func TestConstants(t *testing.T) {
	got := []int64{impl.ErrNone, impl.ErrInvalid, impl.ErrRange, impl.ErrLimit, impl.ErrNotFound, impl.ErrState, impl.ErrSyntax}
	for i, code := range got {
		if code != int64(i) {
			t.Errorf("error code %d is %d", i, code)
		}
	}
	if impl.MaxPrime != 10007 || impl.MaxDegree != 24 {
		t.Errorf("MaxPrime = %d, MaxDegree = %d", impl.MaxPrime, impl.MaxDegree)
	}
}

func TestIsPrimeBySieve(t *testing.T) {
	const end = 11000
	composite := make([]bool, end)
	for d := 2; d < end; d++ {
		for m := 2 * d; m < end; m += d {
			composite[m] = true
		}
	}
	for p := int64(-20); p < end; p++ {
		want := p >= 2 && p <= 10007 && !composite[p]
		if impl.IsPrime(p) != want {
			t.Errorf("IsPrime(%d) = %t", p, !want)
		}
	}
	for _, p := range noPrimes {
		if impl.IsPrime(p) {
			t.Errorf("IsPrime(%d) = true", p)
		}
	}
}

func TestInverseOf(t *testing.T) {
	for _, p := range somePrimes {
		for x := int64(1); x < p; x++ {
			y, code := impl.InverseOf(p, x)
			if code != impl.ErrNone || y < 1 || y >= p || x*y%p != 1 {
				t.Fatalf("InverseOf(%d, %d) = %d, %d", p, x, y, code)
			}
		}
		for _, x := range append([]int64{0, p, p + 1, -p}, extremes...) {
			fails(t, "InverseOf", numResult(impl.InverseOf(p, x)), impl.ErrRange)
		}
	}
	for _, p := range noPrimes {
		for _, x := range []int64{0, 1, 3, p - 1} {
			fails(t, "InverseOf", numResult(impl.InverseOf(p, x)), impl.ErrRange)
		}
	}
}

func TestPowerOf(t *testing.T) {
	for _, p := range []int64{2, 3, 5, 7, 11} {
		for x := range p {
			for k := range int64(40) {
				num(t, "PowerOf", numResult(impl.PowerOf(p, x, k)), slowPower(p, x, k))
			}
		}
	}
	for _, p := range somePrimes {
		num(t, "PowerOf of 0, 0", numResult(impl.PowerOf(p, 0, 0)), 1)
		num(t, "PowerOf of 0, 1", numResult(impl.PowerOf(p, 0, 1)), 0)
		num(t, "PowerOf of 0, 1000000000", numResult(impl.PowerOf(p, 0, 1000000000)), 0)
		for _, x := range []int64{1, p / 2, p - 1} {
			if x == 0 {
				continue
			}
			// By Fermat's theorem the power p - 1 is 1.
			for _, k := range []int64{p - 1, p, 65536, 999999999, 1000000000} {
				num(t, "PowerOf", numResult(impl.PowerOf(p, x, k)), slowPower(p, x, k%(p-1)))
			}
		}
	}
}

func TestPowerOfErrors(t *testing.T) {
	for _, p := range somePrimes {
		for _, x := range append([]int64{p, p + 1, -p}, extremes...) {
			for _, k := range []int64{0, 1, 1000000000} {
				fails(t, "PowerOf", numResult(impl.PowerOf(p, x, k)), impl.ErrRange)
			}
		}
		for _, k := range []int64{-1, 1000000001, math.MinInt64, math.MaxInt64} {
			fails(t, "PowerOf", numResult(impl.PowerOf(p, 1, k)), impl.ErrRange)
		}
	}
	for _, p := range noPrimes {
		for _, k := range []int64{0, 1, 2} {
			fails(t, "PowerOf", numResult(impl.PowerOf(p, 1, k)), impl.ErrRange)
			fails(t, "PowerOf", numResult(impl.PowerOf(p, 0, k)), impl.ErrRange)
		}
	}
}
