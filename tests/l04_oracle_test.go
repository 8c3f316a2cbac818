package tests

import (
	"slices"
	"sync"

	"loop.example/g01283/impl"
)

// Orthogonal polynomials by their definitions, to check those of the package against.

func boolResult(b bool, code int64) result {
	if b {
		return numResult(1, code)
	}
	return numResult(0, code)
}

// told is what moments tell by the definitions: their order, the orthogonal polynomials as far as
// they are told, and the norms of those less than the order, with their inverses.
type told struct {
	m        impl.Moments
	order    int
	polys    [][]int64
	norms    []int64
	inverses []int64
}

func tell(m impl.Moments) told {
	x := told{m: m, order: int(slowOrder(m))}
	for k := 0; k <= x.order && 2*k <= len(m.List); k++ {
		x.polys = append(x.polys, slowOrthogonal(m, k))
		if k < x.order {
			norm := x.norm(k)
			x.norms = append(x.norms, norm)
			x.inverses = append(x.inverses, slowInverse(m.Prime, norm))
		}
	}
	return x
}

// norm returns L of P(k) P(k).
func (x told) norm(k int) int64 {
	return slowFunctional(x.m, slowProduct(x.m.Prime, x.polys[k], x.polys[k]))
}

// jacobi returns the Jacobi data of n numbers by the norms.
func (x told) jacobi(n int) impl.Jacobi {
	p := x.m.Prime
	j := data(p, make([]int64, n), make([]int64, n))
	for k := range n {
		square := slowProduct(p, x.polys[k], x.polys[k])
		j.Alpha[k] = slowFunctional(x.m, slowProduct(p, []int64{0, 1}, square)) * x.inverses[k] % p
		if k == 0 {
			j.Beta[k] = x.m.List[0]
		} else {
			j.Beta[k] = x.norms[k] * x.inverses[k-1] % p
		}
	}
	return j
}

// kernel returns the sum of P(k) times its value at a, divided by its norm.
func (x told) kernel(n int, a int64) []int64 {
	p := x.m.Prime
	var sum []int64
	for k := range n + 1 {
		sum = slowSum(p, sum, x.polys[k], slowValue(p, x.polys[k], a)*x.inverses[k]%p)
	}
	return sum
}

// sum returns the sum of numbers times P(0), P(1), ..
func (x told) sum(list []int64) []int64 {
	var f []int64
	for k, c := range list {
		f = slowSum(x.m.Prime, f, x.polys[k], c)
	}
	return f
}

func slowInverse(p, x int64) int64 {
	return slowPower(p, x, p-2)
}

// slowOrthogonal solves by determinants what P(k) has to be: with the numbers m(r), m(r + 1), ..,
// m(r + k) as the rows r in 0..k - 1, without the column i they make the number at x^i, up to the
// factor that makes 1 of the last one.
func slowOrthogonal(m impl.Moments, k int) []int64 {
	rows := make([][]int64, k)
	for r := range rows {
		rows[r] = m.List[r : r+k+1]
	}
	sums := slowSubsets(m.Prime, rows, k+1)
	factor := slowInverse(m.Prime, sums[len(sums)-1-1<<k])
	f := make([]int64, k+1)
	for i := range f {
		f[i] = sums[len(sums)-1-1<<i] * factor % m.Prime
		if (k-i)%2 == 1 {
			f[i] = modulo(m.Prime, -f[i])
		}
	}
	return f
}

func slowMomentsOfJacobi(j impl.Jacobi, n int) []int64 {
	list := make([]int64, n)
	for k, power := range slowPowersOfMatrix(j, n) {
		list[k] = j.Beta[0] * power[0][0] % j.Prime
	}
	return list
}

// slowPowersOfMatrix takes the first n powers of the matrix of data one after the other.
func slowPowersOfMatrix(j impl.Jacobi, n int) [][][]int64 {
	matrix := slowMatrix(j)
	power := make([][]int64, len(matrix))
	for i := range power {
		power[i] = make([]int64, len(matrix))
		power[i][i] = 1
	}
	powers := make([][][]int64, n)
	for k := range powers {
		powers[k] = power
		power = slowMatrixProduct(j.Prime, power, matrix)
	}
	return powers
}

func slowMatrixProduct(p int64, a, b [][]int64) [][]int64 {
	product := make([][]int64, len(a))
	for i := range product {
		product[i] = make([]int64, len(a))
		for k := range product[i] {
			for l := range a {
				product[i][k] = (product[i][k] + a[i][l]*b[l][k]) % p
			}
		}
	}
	return product
}

// regular returns n moments of the order n / 2, rounded up.
func (d *dice) regular(p int64, n int) impl.Moments {
	return of(p, slowMomentsOfJacobi(d.data(p, (n+1)/2), n)...)
}

// someMoments returns moments of many orders: regular ones alone and with others behind them, those
// of nodes, at random, and with zeros at the beginning.
func someMoments(d *dice, p int64) []impl.Moments {
	all := []impl.Moments{of(p, 0), of(p, 1), of(p, p-1), of(p, 0, 1), of(p, 1, 0), of(p, make([]int64, 24)...)}
	for n := 1; n <= impl.MaxMoments; n++ {
		regular := d.regular(p, n)
		all = append(all, regular, d.moments(p, n))
		if n < impl.MaxMoments {
			all = append(all, of(p, append(slices.Clone(regular.List), d.below(p))...))
			all = append(all, of(p, append(slices.Clone(regular.List), d.list(p, 24-n)...)...))
			all = append(all, of(p, append(make([]int64, n), d.list(p, 24-n)...)...))
		}
		if n <= impl.MaxNodes && int64(n) <= p {
			nodes, weights := d.different(p, n), d.list(p, n)
			all = append(all, of(p, slowMomentsOfNodes(p, nodes, weights, 2*n)...), of(p, slowMomentsOfNodes(p, nodes, weights, 24)...))
		}
	}
	return all
}

// allTold is made once, as determinants by permutations take their time.
var allTold = sync.OnceValue(func() []told {
	var all []told
	for i, p := range somePrimes {
		for _, m := range someMoments(&dice{uint64(61 + i)}, p) {
			all = append(all, tell(m))
		}
	}
	// All moments of at most 6 numbers modulo 2, and of at most 4 modulo 3.
	for _, c := range []struct{ p, n int64 }{{2, 6}, {3, 4}} {
		for n := int64(1); n <= c.n; n++ {
			for number := range slowPower(1<<40, c.p, n) {
				m := of(c.p)
				for range n {
					m.List = append(m.List, number%c.p)
					number /= c.p
				}
				all = append(all, tell(m))
			}
		}
	}
	return all
})
