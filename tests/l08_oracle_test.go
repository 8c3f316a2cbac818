package tests

import (
	"slices"

	"loop.example/g01283/impl"
)

// Changes of moments and data by their definitions, to check those of the package against.

// jacobisResult has the primes as one more list, so that empty data beside an error are seen.
func jacobisResult(all []impl.Jacobi, code int64) result {
	r := result{lists: [][]int64{nil}, code: code}
	for _, j := range all {
		r.lists[0] = append(r.lists[0], j.Prime)
		r.lists = append(r.lists, j.Alpha, j.Beta)
	}
	return r
}

func slowMultiplied(m impl.Moments, c int64) []int64 {
	list := []int64{}
	for k := 1; k < len(m.List); k++ {
		list = append(list, modulo(m.Prime, m.List[k]-c*m.List[k-1]))
	}
	return list
}

// slowDivided adds up what t and each moment give to a later one, times a power of c.
func slowDivided(m impl.Moments, c, t int64) []int64 {
	p := m.Prime
	list := make([]int64, len(m.List)+1)
	for k := range list {
		list[k] = t * slowPower(p, c, int64(k)) % p
		for i := range k {
			list[k] = (list[k] + m.List[i]*slowPower(p, c, int64(k-1-i))) % p
		}
	}
	return list
}

func slowWithMass(m impl.Moments, c, w int64) []int64 {
	list := make([]int64, len(m.List))
	for k, x := range m.List {
		list[k] = (x + w*slowPower(m.Prime, c, int64(k))) % m.Prime
	}
	return list
}

// slowStep finds q(k) by the values of P(k + 1) and P(k) at c, and returns false if there is no step.
func slowStep(j impl.Jacobi, c int64) (impl.Jacobi, bool) {
	p, n := j.Prime, len(j.Alpha)
	step := data(p, make([]int64, n-1), make([]int64, n-1))
	before := int64(1)
	e := int64(0)
	for k := range n - 1 {
		value := slowValue(p, slowPoly(j, k+1), c)
		if value == 0 {
			return impl.Jacobi{}, false
		}
		q := modulo(p, -value*slowInverse(p, before))
		step.Beta[k] = q * e % p
		e = j.Beta[k+1] * slowInverse(p, q) % p
		step.Alpha[k] = (q + e + c) % p
		if k == 0 {
			step.Beta[k] = j.Beta[0] * q % p
		}
		before = value
	}
	return step, n > 1
}

// slowBack follows the definition, and returns false if there is no step back.
func slowBack(j impl.Jacobi, c, first int64) (impl.Jacobi, bool) {
	p, n := j.Prime, len(j.Alpha)
	back := data(p, make([]int64, n), make([]int64, n))
	q, e := make([]int64, n), make([]int64, n)
	q[0] = first
	back.Beta[0] = j.Beta[0] * slowInverse(p, first) % p
	for k := range n {
		back.Alpha[k] = (q[k] + e[k] + c) % p
		if k+1 == n {
			break
		}
		e[k+1] = modulo(p, j.Alpha[k]-c-q[k])
		if e[k+1] == 0 {
			return impl.Jacobi{}, false
		}
		q[k+1] = j.Beta[k+1] * slowInverse(p, e[k+1]) % p
		back.Beta[k+1] = q[k] * e[k+1] % p
	}
	return back, true
}

// slowStepsOfJacobi returns data and what arises by n steps, and false if one of them is none.
func slowStepsOfJacobi(j impl.Jacobi, c int64, n int) ([]impl.Jacobi, bool) {
	all := []impl.Jacobi{j}
	for range n {
		next, ok := slowStep(all[len(all)-1], c)
		if !ok {
			return nil, false
		}
		all = append(all, next)
	}
	return all, true
}

// slowHalves follows the definition, for symmetric data of at least two numbers.
func slowHalves(j impl.Jacobi) impl.Jacobi {
	p, n := j.Prime, len(j.Alpha)/2
	halves := data(p, make([]int64, n), make([]int64, n))
	for k := range n {
		if k == 0 {
			halves.Alpha[k], halves.Beta[k] = j.Beta[1], j.Beta[0]
			continue
		}
		halves.Alpha[k] = (j.Beta[2*k] + j.Beta[2*k+1]) % p
		halves.Beta[k] = j.Beta[2*k-1] * j.Beta[2*k] % p
	}
	return halves
}

// slowDoubled puts zeros between moments.
func slowDoubled(list []int64) []int64 {
	doubled := []int64{}
	for k, x := range list {
		if k > 0 {
			doubled = append(doubled, 0)
		}
		doubled = append(doubled, x)
	}
	return doubled
}

// isSymmetric asks whether the functional is 0 at all odd powers of x.
func isSymmetric(m impl.Moments) bool {
	for k := range m.List {
		if k%2 == 1 && slowFunctional(m, ofDegree(k)) != 0 {
			return false
		}
	}
	return true
}

// symmetric returns data of n numbers with only 0 as Alpha.
func (d *dice) symmetric(p int64, n int) impl.Jacobi {
	return data(p, make([]int64, n), d.nonzero(p, n))
}

// steppable returns data of n numbers that have a step by c, with the given last q.
func (d *dice) steppable(p int64, n int, c, last int64) impl.Jacobi {
	j := slowJacobiOfSteps(p, append(d.nonzero(p, 2*n-1), last))
	for k, x := range j.Alpha {
		j.Alpha[k] = (x + c) % p
	}
	return j
}

// with returns data with x as Alpha[k].
func with(j impl.Jacobi, k int, x int64) impl.Jacobi {
	changed := data(j.Prime, slices.Clone(j.Alpha), slices.Clone(j.Beta))
	changed.Alpha[k] = modulo(j.Prime, x)
	return changed
}
