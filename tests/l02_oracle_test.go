package tests

import (
	"math/bits"
	"slices"
	"testing"

	"loop.example/g01283/impl"
)

// Moments by their definitions, to check those of the package against.

func momentsResult(m impl.Moments, code int64) result {
	return result{lists: [][]int64{m.List}, num: m.Prime, code: code}
}

func of(p int64, list ...int64) impl.Moments {
	return impl.Moments{Prime: p, List: list}
}

// moments checks that a call returned these moments and ErrNone.
func moments(t *testing.T, name string, r result, p int64, want ...int64) {
	t.Helper()
	if r.code != impl.ErrNone || r.num != p || !slices.Equal(r.lists[0], want) {
		t.Errorf("%s = %d, %v, code %d, want %d, %v", name, r.num, r.lists[0], r.code, p, want)
	}
}

// moments returns n moments for p.
func (d *dice) moments(p int64, n int) impl.Moments {
	return of(p, d.list(p, n)...)
}

// slowFunctional adds up the numbers of f times the moments.
func slowFunctional(m impl.Moments, f []int64) int64 {
	sum := int64(0)
	for k, x := range f {
		sum = modulo(m.Prime, sum+x*m.List[k])
	}
	return sum
}

// slowHankel takes the determinant of its rows.
func slowHankel(m impl.Moments, k int) int64 {
	rows := make([][]int64, k)
	for i := range rows {
		rows[i] = m.List[i : i+k]
	}
	return slowDeterminant(m.Prime, rows)
}

// slowDeterminant adds up the products of the elements over all permutations.
func slowDeterminant(p int64, rows [][]int64) int64 {
	sums := slowSubsets(p, rows, len(rows))
	return sums[len(sums)-1]
}

// slowSubsets returns, for each set of as many columns as there are rows, the determinant of these
// columns: products over permutations that begin with the same set are added up together.
func slowSubsets(p int64, rows [][]int64, columns int) []int64 {
	sums := make([]int64, 1<<columns)
	sums[0] = 1
	for used, sum := range sums {
		i := bits.OnesCount(uint(used))
		if sum == 0 || i == len(rows) {
			continue
		}
		for column := range columns {
			if used>>column&1 == 1 {
				continue
			}
			x := sum * rows[i][column]
			// Each column in use behind this one is an inversion.
			if bits.OnesCount(uint(used>>column))%2 == 1 {
				x = -x
			}
			next := used | 1<<column
			sums[next] = modulo(p, sums[next]+x)
		}
	}
	return sums
}

func slowOrder(m impl.Moments) int64 {
	k := 0
	for 2*(k+1)-1 <= len(m.List) && slowHankel(m, k+1) != 0 {
		k++
	}
	return int64(k)
}

func slowAffine(m impl.Moments, a, b int64) []int64 {
	var list []int64
	power := []int64{1}
	for range m.List {
		list = append(list, slowFunctional(m, power))
		power = slowProduct(m.Prime, power, cut([]int64{b, a}))
	}
	return list
}

// slowProductMoments applies the functional to f x^k, one k after the other.
func slowProductMoments(m impl.Moments, f []int64) []int64 {
	list := []int64{}
	for shifted := f; len(shifted) <= len(m.List) && len(list) < len(m.List); shifted = append([]int64{0}, shifted...) {
		list = append(list, slowFunctional(m, shifted))
	}
	return list
}

func slowMomentsOfNodes(p int64, nodes, weights []int64, n int) []int64 {
	list := make([]int64, n)
	for k := range list {
		for i, x := range nodes {
			list[k] = (list[k] + weights[i]*slowPower(p, x, int64(k))) % p
		}
	}
	return list
}

// slowNamed counts what the names stand for.
func slowNamed(name string, p int64, k int) int64 {
	switch name {
	case "uniform":
		for x := range p {
			if x*int64(k+1)%p == 1 {
				return x
			}
		}
	case "laguerre":
		return productOf(p, 1, k, 1)
	case "hermite":
		if k%2 == 0 {
			return productOf(p, 1, k, 2)
		}
	case "catalan":
		return countBrackets(k) % p
	case "poisson":
		return countPartitions(k) % p
	}
	return 0
}

// productOf returns the product of first, first + step, .. up to last.
func productOf(p int64, first, last, step int) int64 {
	product := int64(1)
	for x := first; x <= last; x += step {
		product = product * int64(x) % p
	}
	return product
}

// countBrackets counts the rows of k openings and k closings by how many are open.
func countBrackets(k int) int64 {
	open := make([]int64, 2*k+3)
	open[0] = 1
	for range 2 * k {
		next := make([]int64, len(open))
		for h := range 2*k + 1 {
			next[h+1] += open[h]
			if h > 0 {
				next[h-1] += open[h]
			}
		}
		open = next
	}
	return open[0]
}

// countPartitions counts the divisions of k things by how many parts they have: each thing is put
// to one of the parts so far, or is a new one.
func countPartitions(k int) int64 {
	parts := make([]int64, k+2)
	parts[0] = 1
	for range k {
		next := make([]int64, len(parts))
		for n := range k + 1 {
			next[n] += parts[n] * int64(n)
			next[n+1] += parts[n]
		}
		parts = next
	}
	sum := int64(0)
	for _, n := range parts {
		sum += n
	}
	return sum
}

// bad moments are none for any reason.
func badMoments() []impl.Moments {
	bad := []impl.Moments{{}, {Prime: 7}, {Prime: 7, List: []int64{}}, of(7, make([]int64, 25)...), of(7, make([]int64, 100000)...)}
	for _, p := range noPrimes {
		bad = append(bad, of(p, 0), of(p, 1, 0, 1), of(p))
	}
	for _, x := range append([]int64{7, 8}, extremes...) {
		bad = append(bad, of(7, x), of(7, 1, x, 1), of(7, 1, 2, x))
	}
	return append(bad, of(2, 2), of(10007, 10007), of(10007, 0, 10007))
}
