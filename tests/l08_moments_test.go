package tests

import (
	"fmt"
	"slices"
	"testing"

	"loop.example/g01283/impl"
)

// someNumbers are numbers modulo p.
func someNumbers(d *dice, p int64) []int64 {
	return []int64{0, 1, p - 1, d.below(p)}
}

// smallMoments are sizes for which all moments are tried.
var smallMoments = []struct {
	p int64
	n int
}{{2, 1}, {2, 2}, {2, 5}, {3, 1}, {3, 2}, {3, 3}, {5, 2}}

// changedMoments are moments of all sizes, and all those of small sizes.
func changedMoments(d *dice) []impl.Moments {
	var all []impl.Moments
	for _, p := range somePrimes {
		for n := 1; n <= impl.MaxMoments; n++ {
			all = append(all, d.moments(p, n), of(p, slices.Repeat([]int64{p - 1}, n)...))
		}
	}
	for _, c := range smallMoments {
		for _, list := range allLists(c.p, c.n) {
			all = append(all, of(c.p, list...))
		}
	}
	return all
}

// TestMultiplyMoments checks also the promise that division undoes multiplication.
func TestMultiplyMoments(t *testing.T) {
	d := &dice{241}
	for _, m := range changedMoments(d) {
		p := m.Prime
		for _, c := range someNumbers(d, p) {
			name := fmt.Sprintf("MultiplyMoments %v by %d", m, c)
			multiplied, code := impl.MultiplyMoments(m, c)
			if len(m.List) == 1 {
				fails(t, name, momentsResult(multiplied, code), impl.ErrState)
				continue
			}
			moments(t, name, momentsResult(multiplied, code), p, slowMultiplied(m, c)...)
			product, _ := impl.ProductMoments(m, []int64{modulo(p, -c), 1})
			moments(t, name+", the product", momentsResult(multiplied, code), p, product.List...)
			moments(t, name+", divided again", momentsResult(impl.DivideMoments(multiplied, c, m.List[0])), p, m.List...)
		}
	}
	m := of(7, 1, 1, 2, 5)
	moments(t, "MultiplyMoments", momentsResult(impl.MultiplyMoments(m, 2)), 7, 6, 0, 1)
	moments(t, "MultiplyMoments by 0", momentsResult(impl.MultiplyMoments(m, 0)), 7, 1, 2, 5)
	moments(t, "MultiplyMoments, two of them", momentsResult(impl.MultiplyMoments(of(7, 3, 1), 6)), 7, 4)
	moments(t, "MultiplyMoments 0", momentsResult(impl.MultiplyMoments(of(7, 0, 0, 0), 3)), 7, 0, 0)
}

// TestDivideMoments checks also the promise that multiplication undoes division.
func TestDivideMoments(t *testing.T) {
	d := &dice{242}
	for _, m := range changedMoments(d) {
		p := m.Prime
		for _, c := range someNumbers(d, p) {
			for _, mass := range someNumbers(d, p) {
				name := fmt.Sprintf("DivideMoments %v by %d and %d", m, c, mass)
				divided, code := impl.DivideMoments(m, c, mass)
				if len(m.List) == impl.MaxMoments {
					fails(t, name, momentsResult(divided, code), impl.ErrLimit)
					continue
				}
				moments(t, name, momentsResult(divided, code), p, slowDivided(m, c, mass)...)
				moments(t, name+", multiplied again", momentsResult(impl.MultiplyMoments(divided, c)), p, m.List...)
			}
		}
	}
	moments(t, "DivideMoments", momentsResult(impl.DivideMoments(of(7, 6, 0, 1), 2, 1)), 7, 1, 1, 2, 5)
	moments(t, "DivideMoments by 0", momentsResult(impl.DivideMoments(of(7, 1, 2, 5), 0, 4)), 7, 4, 1, 2, 5)
	moments(t, "DivideMoments, one of them", momentsResult(impl.DivideMoments(of(7, 3), 2, 6)), 7, 6, 1)
	moments(t, "DivideMoments with the mass 0", momentsResult(impl.DivideMoments(of(7, 3, 1), 2, 0)), 7, 0, 3, 0)
	full := d.moments(101, 24)
	fails(t, "DivideMoments, 24 of them", momentsResult(impl.DivideMoments(full, 5, 6)), impl.ErrLimit)
	fewer := of(101, full.List[:23]...)
	moments(t, "DivideMoments, 23 of them", momentsResult(impl.DivideMoments(fewer, 5, 6)), 101, slowDivided(fewer, 5, 6)...)
}

func TestAddMass(t *testing.T) {
	d := &dice{243}
	for _, m := range changedMoments(d) {
		p := m.Prime
		for _, c := range someNumbers(d, p) {
			for _, w := range someNumbers(d, p) {
				name := fmt.Sprintf("AddMass to %v at %d with %d", m, c, w)
				added, code := impl.AddMass(m, c, w)
				moments(t, name, momentsResult(added, code), p, slowWithMass(m, c, w)...)
				moments(t, name+" and taken off", momentsResult(impl.AddMass(added, c, modulo(p, -w))), p, m.List...)
				node, _ := impl.MomentsOfNodes(p, []int64{c}, []int64{w}, int64(len(m.List)))
				moments(t, name+", as a node", momentsResult(impl.AddMoments(m, node, 1)), p, added.List...)
				// A mass at c is 0 for products by x - c.
				if len(m.List) > 1 {
					multiplied, _ := impl.MultiplyMoments(m, c)
					moments(t, name+", multiplied", momentsResult(impl.MultiplyMoments(added, c)), p, multiplied.List...)
				}
			}
		}
	}
	moments(t, "AddMass", momentsResult(impl.AddMass(of(7, 1, 1, 2, 5), 3, 2)), 7, 3, 0, 6, 3)
	moments(t, "AddMass at 0", momentsResult(impl.AddMass(of(7, 1, 1, 2, 5), 0, 6)), 7, 0, 1, 2, 5)
	moments(t, "AddMass of 0", momentsResult(impl.AddMass(of(7, 1, 1, 2, 5), 3, 0)), 7, 1, 1, 2, 5)
	moments(t, "AddMass to one moment", momentsResult(impl.AddMass(of(7, 1), 3, 5)), 7, 6)
}

// TestSymmetricMoments checks AreSymmetric and HalveMoments for all kinds of moments, and that halves
// are doubled again.
func TestSymmetricMoments(t *testing.T) {
	d := &dice{244}
	all := changedMoments(d)
	for _, p := range somePrimes {
		for n := 1; n <= 12; n++ {
			doubled := slowDoubled(d.list(p, n))
			all = append(all, of(p, doubled...), of(p, append(slices.Clone(doubled), 0)...))
			// One number that is not 0 between them, and at the end.
			for k := 1; k < len(doubled); k += 2 {
				other := slices.Clone(doubled)
				other[k] = 1 + d.below(p-1)
				all = append(all, of(p, other...))
			}
			all = append(all, of(p, append(slices.Clone(doubled), 1)...))
		}
	}
	for _, m := range all {
		want := isSymmetric(m)
		num(t, fmt.Sprintf("AreSymmetric %v", m), boolResult(impl.AreSymmetric(m)), boolResult(want, 0).num)
		name := fmt.Sprintf("HalveMoments %v", m)
		halves, code := impl.HalveMoments(m)
		if !want {
			fails(t, name, momentsResult(halves, code), impl.ErrState)
			continue
		}
		var list []int64
		for k := 0; k < len(m.List); k += 2 {
			list = append(list, m.List[k])
		}
		moments(t, name, momentsResult(halves, code), m.Prime, list...)
		// A 0 at the end is lost.
		moments(t, name+", doubled", momentsResult(impl.DoubleMoments(halves)), m.Prime, m.List[:2*len(list)-1]...)
	}
	moments(t, "HalveMoments", momentsResult(impl.HalveMoments(of(7, 1, 0, 2))), 7, 1, 2)
	moments(t, "HalveMoments with 0 at the end", momentsResult(impl.HalveMoments(of(7, 1, 0, 2, 0))), 7, 1, 2)
	moments(t, "HalveMoments, one of them", momentsResult(impl.HalveMoments(of(7, 4))), 7, 4)
	fails(t, "HalveMoments that are not symmetric", momentsResult(impl.HalveMoments(of(7, 1, 1, 2))), impl.ErrState)
}

func TestDoubleMoments(t *testing.T) {
	d := &dice{245}
	for _, m := range changedMoments(d) {
		name := fmt.Sprintf("DoubleMoments %v", m)
		doubled, code := impl.DoubleMoments(m)
		if len(m.List) > 12 {
			fails(t, name, momentsResult(doubled, code), impl.ErrLimit)
			continue
		}
		moments(t, name, momentsResult(doubled, code), m.Prime, slowDoubled(m.List)...)
		num(t, name+" are symmetric", boolResult(impl.AreSymmetric(doubled)), 1)
		moments(t, name+", halved", momentsResult(impl.HalveMoments(doubled)), m.Prime, m.List...)
	}
	moments(t, "DoubleMoments", momentsResult(impl.DoubleMoments(of(7, 1, 2))), 7, 1, 0, 2)
	moments(t, "DoubleMoments, one of them", momentsResult(impl.DoubleMoments(of(7, 4))), 7, 4)
	full := d.moments(101, 13)
	fails(t, "DoubleMoments, 13 of them", momentsResult(impl.DoubleMoments(full)), impl.ErrLimit)
	moments(t, "DoubleMoments, 12 of them", momentsResult(impl.DoubleMoments(of(101, full.List[:12]...))), 101, slowDoubled(full.List[:12])...)
}
