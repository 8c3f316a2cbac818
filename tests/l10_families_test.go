package tests

import (
	"fmt"
	"math"
	"slices"
	"strings"
	"testing"

	"loop.example/g01283/impl"
)

// The first four are names of moments too.
var familyNames = []string{"hermite", "laguerre", "poisson", "catalan", "second", "legendre"}

// Names that are told for no data: those of moments alone, and what only resembles a name.
var noFamilies = []string{
	"", "uniform", "Hermite", "HERMITE", "hermite ", " hermite", "hermit", "hermites", "hermite\x00", "\xff", "legendre\n", "k",
	"natural.hermite", "alpha", "second legendre", "catalan catalan", strings.Repeat("catalan", 100000),
}

// Primes for which some of the data with names are told, and some are not.
var familyPrimes = []int64{2, 3, 5, 7, 11, 13, 17, 19, 23, 29, 97, 101, 9973, 10007}

func TestNamedJacobi(t *testing.T) {
	for _, name := range familyNames {
		for _, p := range familyPrimes {
			for n := 1; n <= 12; n++ {
				call := fmt.Sprintf("NamedJacobi %q for %d and %d", name, p, n)
				r := jacobiResult(impl.NamedJacobi(name, p, int64(n)))
				want, ok := slowFamily(name, p, n)
				if ok {
					isData(t, call, r, want)
				} else {
					fails(t, call, r, impl.ErrState)
				}
			}
		}
	}
}

func TestFirstNamedJacobi(t *testing.T) {
	cases := []struct {
		name        string
		p           int64
		alpha, beta []int64
	}{
		{"hermite", 7, []int64{0, 0, 0}, []int64{1, 1, 2}},
		{"hermite", 10007, make([]int64, 12), []int64{1, 1, 2, 3, 4, 5, 6, 7, 8, 9, 10, 11}},
		{"laguerre", 10007, []int64{1, 3, 5, 7, 9, 11, 13, 15, 17, 19, 21, 23}, []int64{1, 1, 4, 9, 16, 25, 36, 49, 64, 81, 100, 121}},
		{"laguerre", 3, []int64{1, 0, 2}, []int64{1, 1, 1}},
		{"poisson", 10007, []int64{1, 2, 3, 4, 5, 6, 7, 8, 9, 10, 11, 12}, []int64{1, 1, 2, 3, 4, 5, 6, 7, 8, 9, 10, 11}},
		{"poisson", 3, []int64{1, 2, 0}, []int64{1, 1, 2}},
		{"catalan", 10007, []int64{1, 2, 2, 2}, []int64{1, 1, 1, 1}},
		{"catalan", 2, []int64{1, 0, 0, 0, 0, 0, 0, 0, 0, 0, 0, 0}, slices.Repeat([]int64{1}, 12)},
		{"second", 7, []int64{0, 0, 0}, []int64{1, 2, 2}},
		{"second", 3, make([]int64, 12), slices.Repeat([]int64{1}, 12)},
		{"second", 2, []int64{0}, []int64{1}},
		{"legendre", 7, []int64{0, 0, 0}, []int64{2, 5, 4}},
		{"legendre", 3, []int64{0}, []int64{2}},
		{"legendre", 29, make([]int64, 3), []int64{2, 10, 8}},
	}
	for _, c := range cases {
		name := fmt.Sprintf("NamedJacobi %q for %d", c.name, c.p)
		isData(t, name, jacobiResult(impl.NamedJacobi(c.name, c.p, int64(len(c.alpha)))), data(c.p, c.alpha, c.beta))
	}
}

// TestFamiliesNotTold checks the first sizes for which a Beta is 0, or a number to be divided by.
func TestFamiliesNotTold(t *testing.T) {
	cases := []struct {
		name string
		p, n int64
	}{
		{"hermite", 2, 3}, {"hermite", 3, 4}, {"hermite", 11, 12}, {"laguerre", 2, 3}, {"laguerre", 5, 6}, {"poisson", 2, 3},
		{"poisson", 7, 8}, {"second", 2, 2}, {"legendre", 3, 2}, {"legendre", 5, 3}, {"legendre", 7, 4}, {"legendre", 11, 6},
		{"legendre", 13, 7}, {"legendre", 17, 9}, {"legendre", 19, 10}, {"legendre", 23, 12},
	}
	for _, c := range cases {
		for n := c.n; n <= 12; n++ {
			fails(t, fmt.Sprintf("NamedJacobi %q for %d and %d", c.name, c.p, n), jacobiResult(impl.NamedJacobi(c.name, c.p, n)), impl.ErrState)
		}
		if _, code := impl.NamedJacobi(c.name, c.p, c.n-1); code != impl.ErrNone {
			t.Errorf("NamedJacobi %q for %d and %d: code %d", c.name, c.p, c.n-1, code)
		}
	}
	// Already the first Beta, which is 2.
	fails(t, "NamedJacobi legendre for 2", jacobiResult(impl.NamedJacobi("legendre", 2, 1)), impl.ErrState)
}

func TestNamedJacobiErrors(t *testing.T) {
	counts := append([]int64{0, 13, 14, 24, math.MinInt32}, extremes...)
	for _, name := range slices.Concat(familyNames, noFamilies) {
		for _, p := range noPrimes {
			for _, n := range append([]int64{1, 12}, counts...) {
				fails(t, "NamedJacobi for no prime", jacobiResult(impl.NamedJacobi(name, p, n)), impl.ErrRange)
			}
		}
		for _, n := range counts {
			for _, p := range familyPrimes {
				fails(t, fmt.Sprintf("NamedJacobi of %d numbers", n), jacobiResult(impl.NamedJacobi(name, p, n)), impl.ErrRange)
			}
		}
	}
	for _, name := range noFamilies {
		for _, p := range familyPrimes {
			for n := range int64(12) {
				fails(t, fmt.Sprintf("NamedJacobi %.40q", name), jacobiResult(impl.NamedJacobi(name, p, n+1)), impl.ErrNotFound)
			}
		}
	}
}

// TestMomentsOfFamilies checks the promise that data with names have moments with these names, and that
// there are no such data exactly where the moments have none.
func TestMomentsOfFamilies(t *testing.T) {
	for _, name := range familyNames[:4] {
		for _, p := range familyPrimes {
			for n := int64(1); n <= 12; n++ {
				call := fmt.Sprintf("NamedJacobi %q for %d and %d", name, p, n)
				m, _ := impl.NamedMoments(name, p, 2*n)
				j, code := impl.NamedJacobi(name, p, n)
				if code == impl.ErrNone {
					moments(t, call+", its moments", momentsResult(impl.MomentsOfJacobi(j, 2*n)), p, m.List...)
				}
				if found := jacobiResult(impl.JacobiOfMoments(m, n)); !found.equals(jacobiResult(j, code)) {
					t.Errorf("%s = %v, code %d, by the moments %v", call, j, code, found)
				}
			}
		}
	}
}

// TestMomentsOfOtherFamilies checks those of the other two: for legendre the integrals of x^k from -1 to
// 1, and for second the numbers of catalan, divided by powers of 4, with zeros between them.
func TestMomentsOfOtherFamilies(t *testing.T) {
	for _, p := range familyPrimes {
		for n := int64(1); n <= 12; n++ {
			integrals, numbers := make([]int64, 2*n), make([]int64, 2*n)
			for k := int64(0); k < 2*n; k += 2 {
				integrals[k] = 2 * slowInverse(p, (k+1)%p) % p
				numbers[k] = slowNamed("catalan", p, int(k/2)) * slowInverse(p, slowPower(p, 4, k/2)) % p
			}
			if j, code := impl.NamedJacobi("legendre", p, n); code == impl.ErrNone {
				moments(t, "NamedJacobi legendre, its moments", momentsResult(impl.MomentsOfJacobi(j, 2*n)), p, integrals...)
			}
			if j, code := impl.NamedJacobi("second", p, n); code == impl.ErrNone {
				moments(t, "NamedJacobi second, its moments", momentsResult(impl.MomentsOfJacobi(j, 2*n)), p, numbers...)
			}
		}
	}
}

// TestFamiliesByChanges checks that changes of data lead from one name to another one: the halves of
// second are catalan scaled by 1 / 4, and the data of uniform, from 0..1 to -1..1, are legendre.
func TestFamiliesByChanges(t *testing.T) {
	for _, p := range familyPrimes {
		for n := int64(1); n <= 6 && p > 2; n++ {
			second, _ := impl.NamedJacobi("second", p, 2*n)
			catalan, _ := impl.NamedJacobi("catalan", p, n)
			isData(t, "HalveJacobi of second", jacobiResult(impl.HalveJacobi(second)), first(impl.AffineJacobi(catalan, slowInverse(p, 4%p), 0)))
		}
		for n := int64(1); n <= 12 && 2*n < p; n++ {
			uniform, _ := impl.NamedMoments("uniform", p, 2*n)
			found, _ := impl.JacobiOfMoments(uniform, n)
			wide, _ := impl.AffineJacobi(found, 2%p, p-1)
			isData(t, "NamedJacobi legendre by uniform", jacobiResult(impl.NamedJacobi("legendre", p, n)), first(impl.ScaleJacobi(wide, 2)))
		}
	}
}
