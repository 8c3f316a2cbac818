package tests

import (
	"math"
	"math/bits"
	"slices"
	"testing"

	"loop.example/g01283/impl"
)

// Polynomials of data by their definitions, to check those of the package against.

func jacobiResult(j impl.Jacobi, code int64) result {
	return result{lists: [][]int64{j.Alpha, j.Beta}, num: j.Prime, code: code}
}

// rowsResult has the number of rows, so that empty rows beside an error are seen.
func rowsResult(rows [][]int64, code int64) result {
	return result{lists: rows, num: int64(len(rows)), code: code}
}

func data(p int64, alpha, beta []int64) impl.Jacobi {
	return impl.Jacobi{Prime: p, Alpha: alpha, Beta: beta}
}

// sample is data with different numbers.
func sample() impl.Jacobi {
	return data(7, []int64{1, 2, 0}, []int64{1, 3, 5})
}

// isData checks that a call returned these data and ErrNone.
func isData(t *testing.T, name string, r result, want impl.Jacobi) {
	t.Helper()
	if !r.equals(jacobiResult(want, impl.ErrNone)) {
		t.Errorf("%s = %d, %v, code %d, want %v", name, r.num, r.lists, r.code, want)
	}
}

// data returns n numbers Alpha and Beta for p.
func (d *dice) data(p int64, n int) impl.Jacobi {
	beta := make([]int64, n)
	for k := range beta {
		beta[k] = 1 + d.below(p-1)
	}
	return data(p, d.list(p, n), beta)
}

// someData returns data of each size: at random, with the least numbers, and with the greatest.
func someData(d *dice, p int64) []impl.Jacobi {
	var all []impl.Jacobi
	for n := 1; n <= impl.MaxRows; n++ {
		least := data(p, make([]int64, n), slices.Repeat([]int64{1}, n))
		greatest := data(p, slices.Repeat([]int64{p - 1}, n), slices.Repeat([]int64{p - 1}, n))
		all = append(all, d.data(p, n), d.data(p, n), least, greatest)
	}
	return all
}

// allData returns all data of n numbers with b as Beta[0].
func allData(p int64, n int, b int64) []impl.Jacobi {
	all := []impl.Jacobi{data(p, nil, nil)}
	for k := range n {
		var longer []impl.Jacobi
		for _, j := range all {
			for x := range p {
				for y := int64(1); y < p; y++ {
					if k > 0 || y == b {
						longer = append(longer, data(p, append(slices.Clone(j.Alpha), x), append(slices.Clone(j.Beta), y)))
					}
				}
			}
		}
		all = longer
	}
	return all
}

// slowPoly follows the recurrence downwards.
func slowPoly(j impl.Jacobi, k int) []int64 {
	if k < 1 {
		return ofDegree(0)[:k+1]
	}
	p := j.Prime
	f := slowProduct(p, []int64{-j.Alpha[k-1] + p, 1}, slowPoly(j, k-1))
	return slowSum(p, f, slowPoly(j, k-2), -j.Beta[k-1])
}

// slowAssociated is the polynomial k - 1 of the data without their first numbers.
func slowAssociated(j impl.Jacobi, k int) []int64 {
	return slowPoly(data(j.Prime, j.Alpha[1:], j.Beta[1:]), k-1)
}

func slowMatrix(j impl.Jacobi) [][]int64 {
	n := len(j.Alpha)
	rows := make([][]int64, n)
	for i := range rows {
		rows[i] = make([]int64, n)
		for k := range rows[i] {
			switch k {
			case i:
				rows[i][k] = j.Alpha[i]
			case i + 1:
				rows[i][k] = 1
			case i - 1:
				rows[i][k] = j.Beta[i]
			}
		}
	}
	return rows
}

// slowCharacteristic adds up the products of the elements of x times the unit matrix less the given
// one over all permutations, those that begin with the same set of columns together.
func slowCharacteristic(p int64, rows [][]int64) []int64 {
	n := len(rows)
	sums := make([][]int64, 1<<n)
	sums[0] = []int64{1}
	for used := range sums {
		i := bits.OnesCount(uint(used))
		for column := range n {
			if used>>column&1 == 1 {
				continue
			}
			element := []int64{modulo(p, -rows[i][column])}
			if column == i {
				element = append(element, 1)
			}
			sign := int64(1)
			// Each column in use behind this one is an inversion.
			if bits.OnesCount(uint(used>>column))%2 == 1 {
				sign = -1
			}
			next := used | 1<<column
			sums[next] = slowSum(p, sums[next], slowProduct(p, sums[used], cut(element)), sign)
		}
	}
	return sums[len(sums)-1]
}

// square returns the rows of a matrix of n rows of n numbers, about one of rare of them not 0.
func (d *dice) square(p int64, n int, rare int64) [][]int64 {
	rows := make([][]int64, n)
	for i := range rows {
		rows[i] = make([]int64, n)
		for k := range rows[i] {
			if d.below(rare) == 0 {
				rows[i][k] = d.below(p)
			}
		}
	}
	return rows
}

// badData are none for any reason.
func badData() []impl.Jacobi {
	one, two := []int64{1}, []int64{1, 1}
	bad := []impl.Jacobi{
		{}, {Prime: 7}, data(7, []int64{}, []int64{}), data(7, one, nil), data(7, nil, one), data(7, one, two), data(7, two, one),
		data(7, slices.Repeat(one, 13), slices.Repeat(one, 13)), data(7, slices.Repeat(one, 12), slices.Repeat(one, 13)),
		data(7, slices.Repeat(one, 13), slices.Repeat(one, 12)), data(7, slices.Repeat(one, 100000), slices.Repeat(one, 100000)),
		data(7, one, []int64{0}), data(7, []int64{0, 0}, []int64{0, 1}), data(7, two, []int64{1, 0}), data(7, []int64{1, 2, 3}, []int64{1, 0, 3}),
		data(2, []int64{2}, one), data(2, one, []int64{2}), data(10007, []int64{10007}, one), data(10007, one, []int64{10007}),
	}
	for _, p := range noPrimes {
		bad = append(bad, data(p, one, one), data(p, []int64{0, 0}, two), data(p, nil, nil))
	}
	for _, x := range append([]int64{7, 8, math.MinInt32}, extremes...) {
		bad = append(bad, data(7, []int64{x}, one), data(7, one, []int64{x}), data(7, []int64{0, x}, two))
		bad = append(bad, data(7, two, []int64{1, x}), data(7, []int64{x, x}, []int64{x, x}))
	}
	return bad
}
