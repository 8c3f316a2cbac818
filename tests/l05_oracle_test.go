package tests

import (
	"slices"
	"testing"

	"loop.example/g01283/impl"
)

// Series and continued fractions by their definitions, to check those of the package against.

// convergentsResult has in one number how many there are of each, so that empty ones beside an error
// are seen.
func convergentsResult(a, b [][]int64, code int64) result {
	return result{lists: slices.Concat(a, b), num: int64(100*len(a) + len(b)), code: code}
}

// beginning returns the first n numbers of a list, with zeros behind it if it has fewer.
func beginning(list []int64, n int) []int64 {
	first := make([]int64, n)
	copy(first, list)
	return first
}

// isSeries checks that a call returned n numbers which, times g, are f up to multiples of x^n. There
// are no others, as g has a number other than 0 at x^0.
func isSeries(t *testing.T, name string, r result, p int64, f, g []int64, n int) {
	t.Helper()
	if r.code != impl.ErrNone || len(r.lists[0]) != n || !isList(p, r.lists[0]) {
		t.Errorf("%s = %v, code %d, want %d numbers modulo %d", name, r.lists[0], r.code, n, p)
		return
	}
	if product := slowProduct(p, r.lists[0], g); !slices.Equal(beginning(product, n), beginning(f, n)) {
		t.Errorf("%s = %v, which times %v is %v, not %v", name, r.lists[0], g, product, f)
	}
}

// slowDivide takes multiples of g off f, from the greatest power on.
func slowDivide(p int64, f, g []int64) ([]int64, []int64) {
	quotient, rest := make([]int64, max(len(f)-len(g)+1, 0)), f
	for len(rest) >= len(g) {
		k := len(rest) - len(g)
		quotient[k] = rest[len(rest)-1] * slowInverse(p, g[len(g)-1]) % p
		rest = slowSum(p, rest, append(make([]int64, k), g...), -quotient[k])
	}
	return quotient, rest
}

func slowQuotients(p int64, f, g []int64) [][]int64 {
	var all [][]int64
	for len(g) > 0 {
		quotient, rest := slowDivide(p, f, g)
		all = append(all, quotient)
		f, g = g, rest
	}
	return all
}

// continuant returns the numerator of the continued fraction with these quotients, 1 for none. It
// is found from the last quotient on, and that of all but the first one is the denominator.
func continuant(p int64, quotients [][]int64) []int64 {
	before, current := []int64(nil), []int64{1}
	for _, q := range slices.Backward(quotients) {
		before, current = current, slowSum(p, slowProduct(p, q, current), before, 1)
	}
	return current
}

// slowSteps follows the definition; it returns false if there are none.
func slowSteps(m impl.Moments) ([]int64, bool) {
	p, series := m.Prime, m.List
	var steps []int64
	for len(cut(series)) > 0 {
		if series[0] == 0 {
			return nil, false
		}
		steps = append(steps, series[0])
		// The series of the step and s, found by 1 = u s / step.
		inverse := slowInverse(p, series[0])
		quotient := []int64{1}
		for k := 1; k < len(series); k++ {
			sum := slowFunctional(of(p, series[1:k+1]...), reversed(quotient))
			quotient = append(quotient, modulo(p, -sum*inverse))
		}
		series = make([]int64, len(series)-1)
		for k := range series {
			series[k] = modulo(p, -quotient[k+1])
		}
	}
	return steps, true
}

func reversed(list []int64) []int64 {
	backwards := slices.Clone(list)
	slices.Reverse(backwards)
	return backwards
}

// slowMomentsOfSteps adds up the weights of paths: m(k) is c(0) times the sum over all rows of k
// steps up and k steps down that never go below 0, nor above the number of the last step, a step
// down from h having the weight c(h).
func slowMomentsOfSteps(p int64, steps []int64, n int) []int64 {
	sums := make([]int64, len(steps))
	sums[0] = steps[0]
	var list []int64
	for length := range 2 * n {
		if length%2 == 0 {
			list = append(list, sums[0])
		}
		next := make([]int64, len(sums))
		for h, sum := range sums {
			if h+1 < len(sums) {
				next[h+1] = (next[h+1] + sum) % p
			}
			if h > 0 {
				next[h-1] = (next[h-1] + sum*steps[h]) % p
			}
		}
		sums = next
	}
	return list
}

// slowJacobiOfSteps has the data of steps.
func slowJacobiOfSteps(p int64, c []int64) impl.Jacobi {
	r := len(c) / 2
	j := data(p, make([]int64, r), make([]int64, r))
	j.Alpha[0], j.Beta[0] = c[1], c[0]
	for k := 1; k < r; k++ {
		j.Alpha[k] = (c[2*k] + c[2*k+1]) % p
		j.Beta[k] = c[2*k-1] * c[2*k] % p
	}
	return j
}

// hasApproximant reports whether there are numbers B(1) to B(b) for which the series times
// 1 + B(1) x + .. has only 0 from x^(a + 1) to x^(a + b): whether these rows have the same rank with
// and without the number that the 1 makes.
func hasApproximant(p int64, series []int64, a, b int) bool {
	var without, with [][]int64
	for k := a + 1; k <= a+b; k++ {
		row := make([]int64, b)
		for i := 1; i <= min(b, k); i++ {
			row[i-1] = series[k-i]
		}
		without = append(without, row)
		with = append(with, append(slices.Clone(row), series[k]))
	}
	return slowRank(p, without) == slowRank(p, with)
}

// slowRank returns the rank of a matrix of rows of equally many numbers.
func slowRank(p int64, matrix [][]int64) int {
	rows := slices.Clone(matrix)
	rank := 0
	for column := 0; len(rows) > rank && column < len(rows[0]); column++ {
		pivot := slices.IndexFunc(rows[rank:], func(row []int64) bool { return row[column] != 0 })
		if pivot < 0 {
			continue
		}
		rows[rank], rows[rank+pivot] = rows[rank+pivot], rows[rank]
		inverse := slowInverse(p, rows[rank][column])
		for i := rank + 1; i < len(rows); i++ {
			factor := rows[i][column] * inverse % p
			row := slices.Clone(rows[i])
			for k, x := range rows[rank] {
				row[k] = modulo(p, row[k]-factor*x)
			}
			rows[i] = row
		}
		rank++
	}
	return rank
}

// nonzero returns n numbers in 1..p - 1.
func (d *dice) nonzero(p int64, n int) []int64 {
	list := make([]int64, n)
	for i := range list {
		list[i] = 1 + d.below(p-1)
	}
	return list
}

// invertible returns a polynomial of n numbers for p, n of at least 1, with a number other than 0 at
// x^0.
func (d *dice) invertible(p int64, n int) []int64 {
	f := d.poly(p, n)
	if f[0] == 0 {
		f[0] = 1
	}
	return f
}
