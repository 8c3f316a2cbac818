package tests

// Polynomials by their definitions, to check those of the package against.

// modulo returns the rest of x in 0..p - 1.
func modulo(p, x int64) int64 {
	return (x%p + p) % p
}

// slowPower multiplies one by one; 0 to the power 0 is 1.
func slowPower(p, x, k int64) int64 {
	y := int64(1)
	for ; k > 0; k-- {
		y = y * x % p
	}
	return y
}

// slowValue adds up the numbers times the powers of x.
func slowValue(p int64, f []int64, x int64) int64 {
	sum := int64(0)
	for k, c := range f {
		sum = (sum + c*slowPower(p, x, int64(k))) % p
	}
	return sum
}

// cut leaves out the zeros at the end.
func cut(f []int64) []int64 {
	n := len(f)
	for n > 0 && f[n-1] == 0 {
		n--
	}
	return f[:n]
}

// slowSum returns f + k g.
func slowSum(p int64, f, g []int64, k int64) []int64 {
	h := make([]int64, max(len(f), len(g)))
	for i := range h {
		if i < len(f) {
			h[i] += f[i]
		}
		if i < len(g) {
			h[i] += k * g[i]
		}
		h[i] = modulo(p, h[i])
	}
	return cut(h)
}

// slowProduct returns f g, of any degree.
func slowProduct(p int64, f, g []int64) []int64 {
	h := make([]int64, len(f)+len(g))
	for n := range h {
		for i := 0; i <= n; i++ {
			if i < len(f) && n-i < len(g) {
				h[n] = (h[n] + f[i]*g[n-i]) % p
			}
		}
	}
	return cut(h)
}

// slowCompose adds up the numbers of f times the powers of g.
func slowCompose(p int64, f, g []int64) []int64 {
	var sum []int64
	power := []int64{1}
	for _, c := range f {
		sum = slowSum(p, sum, power, c)
		power = slowProduct(p, power, g)
	}
	return sum
}

// allLists returns all lists of n numbers modulo p.
func allLists(p int64, n int) [][]int64 {
	all := [][]int64{{}}
	for range n {
		var longer [][]int64
		for _, list := range all {
			for x := range p {
				longer = append(longer, append(list[:len(list):len(list)], x))
			}
		}
		all = longer
	}
	return all
}

// allPolys returns all polynomials for p with at most n numbers.
func allPolys(p int64, n int) [][]int64 {
	all := [][]int64{{}}
	for count := 1; count <= n; count++ {
		for _, f := range allLists(p, count) {
			if f[count-1] != 0 {
				all = append(all, f)
			}
		}
	}
	return all
}

// slowDivides reports whether some polynomial of the list, times g, is f.
func slowDivides(p int64, g, f []int64, all [][]int64) bool {
	for _, q := range all {
		product := slowProduct(p, q, g)
		if len(product) == len(f) && len(slowSum(p, product, f, p-1)) == 0 {
			return true
		}
	}
	return false
}
