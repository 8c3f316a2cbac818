package tests

import (
	"slices"
	"sync"

	"loop.example/g01283/impl"
)

// Expansions by their definitions, to check those of the package against.

// ladder is what data with N numbers lead to by the definitions: P(0) to P(N), the expansions of 1, x,
// .., x^N, the squared norms, and all moments that the data tell.
type ladder struct {
	j      impl.Jacobi
	polys  [][]int64
	powers [][]int64
	norms  []int64
	m      impl.Moments
}

// climb finds the expansions of powers of x as the first rows of the powers of the matrix, by which x
// times P(0), P(1), .. are these again. One number more, which may be any, makes room for P(N).
func climb(j impl.Jacobi) ladder {
	p, n := j.Prime, len(j.Alpha)
	x := ladder{j: j}
	longer := data(p, append(slices.Clone(j.Alpha), p-1), append(slices.Clone(j.Beta), 1))
	for k, power := range slowPowersOfMatrix(longer, n+1) {
		x.polys = append(x.polys, slowPoly(j, k))
		x.powers = append(x.powers, power[0])
	}
	for k := range n {
		norm := int64(1)
		for _, beta := range j.Beta[:k+1] {
			norm = norm * beta % p
		}
		x.norms = append(x.norms, norm)
	}
	x.m = of(p, slowMomentsOfJacobi(j, 2*n)...)
	return x
}

// expansion adds up the numbers of f times the expansions of powers of x.
func (x ladder) expansion(f []int64) []int64 {
	list := make([]int64, len(f))
	for n, c := range f {
		for k := range list {
			list[k] = (list[k] + c*x.powers[n][k]) % x.j.Prime
		}
	}
	return list
}

// sum adds up the numbers of a list times P(0), P(1), ..
func (x ladder) sum(list []int64) []int64 {
	var f []int64
	for k, c := range list {
		f = slowSum(x.j.Prime, f, x.polys[k], c)
	}
	return f
}

func (x ladder) pairing(a, b []int64) int64 {
	sum := int64(0)
	for k := range min(len(a), len(b)) {
		sum = (sum + a[k]*b[k]%x.j.Prime*x.norms[k]) % x.j.Prime
	}
	return sum
}

// timesX follows the definition: what is not there is 0.
func (x ladder) timesX(list []int64) []int64 {
	at := func(numbers []int64, k int) int64 {
		if k < 0 || k >= len(numbers) {
			return 0
		}
		return numbers[k]
	}
	var product []int64
	for i := range len(list) + 1 {
		product = append(product, (at(list, i-1)+at(x.j.Alpha, i)*at(list, i)+at(x.j.Beta, i+1)*at(list, i+1))%x.j.Prime)
	}
	return cut(product)
}

// slowFamily returns the data with a name, and false if they are not told.
func slowFamily(name string, p int64, n int) (impl.Jacobi, bool) {
	j := data(p, nil, nil)
	for k := range int64(n) {
		alpha, beta, divisor := slowTerm(name, k)
		if beta%p == 0 || divisor%p == 0 {
			return impl.Jacobi{}, false
		}
		j.Alpha = append(j.Alpha, alpha%p)
		j.Beta = append(j.Beta, beta%p*slowInverse(p, divisor%p)%p)
	}
	return j, true
}

// slowTerm returns Alpha[k], and Beta[k] as a fraction.
func slowTerm(name string, k int64) (int64, int64, int64) {
	switch {
	case name == "hermite" && k == 0, name == "second" && k == 0:
		return 0, 1, 1
	case name == "hermite":
		return 0, k, 1
	case name == "second":
		return 0, 1, 4
	case name == "legendre" && k == 0:
		return 0, 2, 1
	case name == "legendre":
		return 0, k * k, 4*k*k - 1
	case k == 0:
		return 1, 1, 1
	case name == "laguerre":
		return 2*k + 1, k * k, 1
	case name == "poisson":
		return k + 1, k, 1
	}
	return 2, 1, 1
}

// unit returns the list of k zeros and 1.
func unit(k int) []int64 { return ofDegree(k) }

// someLadders is made once, as it takes its time. It has ladders of each size for each prime, and those
// of all data of few numbers modulo small primes.
var someLadders = sync.OnceValue(func() []ladder {
	var all []ladder
	for i, p := range somePrimes {
		for _, j := range someData(&dice{uint64(301 + i)}, p) {
			all = append(all, climb(j))
		}
	}
	for _, s := range smallData {
		for n := 1; n <= s.n; n++ {
			for _, j := range allData(s.p, n, s.b) {
				all = append(all, climb(j))
			}
		}
	}
	return all
})

// someLists returns lists of n numbers modulo p: at random, with the least and the greatest numbers, with
// a 0 at the end, and with 1 there alone.
func someLists(d *dice, p int64, n int) [][]int64 {
	if n == 0 {
		return [][]int64{nil, {}}
	}
	return [][]int64{
		d.list(p, n), d.poly(p, n), make([]int64, n), slices.Repeat([]int64{p - 1}, n), append(d.list(p, n-1), 0), unit(n - 1),
	}
}
