package tests

import (
	"slices"
	"testing"

	"loop.example/g01283/impl"
)

// Roots and resultants by their definitions, to check those of the package against.

// is checks that a call returned this answer and ErrNone.
func is(t *testing.T, name string, r result, want bool) {
	t.Helper()
	if !r.equals(boolResult(want, impl.ErrNone)) {
		t.Errorf("%s = %d, code %d, want %v", name, r.num, r.code, want)
	}
}

// slowRoots tries all numbers, ascending.
func slowRoots(p int64, f []int64) []int64 {
	var roots []int64
	for x := range p {
		if slowValue(p, f, x) == 0 {
			roots = append(roots, x)
		}
	}
	return roots
}

// slowMultiplicity divides by all powers of x - r, and returns the greatest exponent without a rest.
func slowMultiplicity(p int64, f []int64, r int64) int64 {
	greatest := 0
	power := []int64{1}
	for k := range len(f) {
		if _, rest := slowDivide(p, f, power); len(rest) == 0 {
			greatest = k
		}
		power = slowProduct(p, power, []int64{p - r, 1})
	}
	return int64(greatest)
}

func slowSplits(p int64, f []int64) bool {
	sum := int64(0)
	for _, r := range slowRoots(p, f) {
		sum += slowMultiplicity(p, f, r)
	}
	return sum == int64(len(f))-1
}

func slowDerivative(p int64, f []int64) []int64 {
	var g []int64
	for k, x := range f {
		if k > 0 {
			g = append(g, int64(k)*x%p)
		}
	}
	return cut(g)
}

// slowDivisor divides one after the other, and makes the last divisor monic.
func slowDivisor(p int64, f, g []int64) []int64 {
	for len(g) > 0 {
		_, rest := slowDivide(p, f, g)
		f, g = g, rest
	}
	return slowSum(p, nil, f, slowInverse(p, f[len(f)-1]))
}

// resultantRows has the rows of f and g, lists of n + 1 and m + 1 numbers.
func resultantRows(f, g []int64) [][]int64 {
	n, m := len(f)-1, len(g)-1
	var rows [][]int64
	for i := range m {
		rows = append(rows, slices.Concat(make([]int64, i), reversed(f), make([]int64, m-1-i)))
	}
	for i := range n {
		rows = append(rows, slices.Concat(make([]int64, i), reversed(g), make([]int64, n-1-i)))
	}
	return rows
}

func slowResultant(p int64, f, g []int64) int64 {
	return slowDeterminant(p, resultantRows(f, g))
}

// slowDiscriminant takes the determinant for the derivative with all its numbers, of the degree n of
// at least 1.
func slowDiscriminant(p int64, f []int64) int64 {
	n := len(f) - 1
	determinant := slowResultant(p, f, beginning(slowDerivative(p, f), n))
	x := determinant * slowInverse(p, f[n])
	if n*(n-1)/2%2 == 1 {
		x = -x
	}
	return modulo(p, x)
}

// resultantOfRoots returns that of the polynomial with a last number c and these roots, and g: the
// product of the values of g at them, and of c for each degree of g.
func resultantOfRoots(p, c int64, roots, g []int64) int64 {
	product := slowPower(p, c, int64(len(g))-1)
	for _, r := range roots {
		product = product * slowValue(p, g, r) % p
	}
	return product
}

// discriminantOfRoots returns the product of the squares of the differences of n roots, two by two,
// times c to the power 2 n - 2.
func discriminantOfRoots(p, c int64, roots []int64) int64 {
	product := slowPower(p, c, int64(2*len(roots)-2))
	for i, r := range roots {
		for _, s := range roots[:i] {
			product = product * modulo(p, (r-s)*(r-s)) % p
		}
	}
	return product
}

// productOfRoots returns the polynomial with the last number c and these roots.
func productOfRoots(p, c int64, roots []int64) []int64 {
	f := []int64{c}
	for _, r := range roots {
		f = slowProduct(p, f, []int64{modulo(p, -r), 1})
	}
	return f
}

// sumsOfRoots adds up the powers 0 to n of the roots; 0 to the power 0 is 1.
func sumsOfRoots(p int64, roots []int64, n int64) []int64 {
	sums := make([]int64, n+1)
	for k := range sums {
		for _, r := range roots {
			sums[k] = (sums[k] + slowPower(p, r, int64(k))) % p
		}
	}
	return sums
}

// slowPowerSums follows the definition by e(0), e(1), ..
func slowPowerSums(p int64, f []int64, n int) []int64 {
	degree := len(f) - 1
	inverse := slowInverse(p, f[degree])
	sign := func(k int) int64 { return int64(1 - k%2*2) }
	e := func(i int) int64 {
		if i > degree {
			return 0
		}
		return modulo(p, sign(i)*(f[degree-i]*inverse%p))
	}
	sums := []int64{int64(degree) % p}
	for k := 1; k <= n; k++ {
		s := sign(k-1) * int64(k) * e(k)
		for i := 1; i < k; i++ {
			s += sign(i-1) * e(i) * sums[k-i] % p
		}
		sums = append(sums, modulo(p, s))
	}
	return sums
}

// tracesOfPowers returns n modulo p, and the sums of the numbers at i, i of the powers 1 to count of
// the matrix of n rows whose characteristic polynomial is f, divided by its last number.
func tracesOfPowers(p int64, f []int64, count int) []int64 {
	n := len(f) - 1
	inverse := slowInverse(p, f[n])
	matrix, power := make([][]int64, n), make([][]int64, n)
	for i := range matrix {
		matrix[i], power[i] = make([]int64, n), make([]int64, n)
		power[i][i] = 1
		if i > 0 {
			matrix[i][i-1] = 1
		}
		matrix[i][n-1] = modulo(p, -f[i]*inverse)
	}
	var traces []int64
	for range count + 1 {
		trace := int64(0)
		for i := range power {
			trace = (trace + power[i][i]) % p
		}
		traces = append(traces, trace)
		power = slowMatrixProduct(p, power, matrix)
	}
	return traces
}

// rootless returns a polynomial of the degree 2 without roots.
func rootless(p int64) []int64 {
	for b := range p {
		for c := range p {
			if f := []int64{c, b, 1}; len(slowRoots(p, f)) == 0 {
				return f
			}
		}
	}
	return nil
}

// roots returns a list of n numbers, some of which come several times if n is great.
func (d *dice) roots(p int64, n int) []int64 {
	list := d.list(p, n)
	for i := range list {
		if i > 0 && d.below(3) == 0 {
			list[i] = list[d.below(int64(i))]
		}
	}
	return list
}

// somePolys returns polynomials of each degree: at random, with the greatest numbers, those of roots,
// and those of roots and one without them.
func somePolys(d *dice, p int64) [][]int64 {
	var all [][]int64
	without := rootless(p)
	for n := range impl.MaxDegree + 1 {
		c := 1 + d.below(p-1)
		all = append(all, d.poly(p, n+1), slices.Repeat([]int64{p - 1}, n+1), productOfRoots(p, c, d.roots(p, n)))
		if n >= 2 {
			all = append(all, slowProduct(p, without, productOfRoots(p, c, d.roots(p, n-2))))
		}
		if n >= 4 {
			square := slowProduct(p, without, without)
			all = append(all, slowProduct(p, square, productOfRoots(p, c, d.roots(p, n-4))))
		}
	}
	return all
}
