package tests

import (
	"fmt"
	"slices"
	"testing"

	"loop.example/g01283/impl"
)

// TestExpandPolynomial checks that the numbers of the expansion have f as their sum; no others do,
// as the degree of P(k) is k.
func TestExpandPolynomial(t *testing.T) {
	d := &dice{81}
	for _, x := range allTold() {
		p := x.m.Prime
		for count := range impl.MaxRows + 1 {
			for _, f := range [][]int64{d.poly(p, count), ofDegree(max(count-1, 0))} {
				name := fmt.Sprintf("ExpandPolynomial of %v and %v", x.m, f)
				r := listResult(impl.ExpandPolynomial(x.m, f))
				if len(f) > len(x.polys) {
					fails(t, name, r, impl.ErrState)
					continue
				}
				if r.code != impl.ErrNone || len(r.lists[0]) != len(f) || !slices.Equal(x.sum(r.lists[0]), f) {
					t.Errorf("%s = %v, code %d", name, r.lists[0], r.code)
				}
				if !isList(p, r.lists[0]) {
					t.Errorf("%s = %v", name, r.lists[0])
				}
				lists(t, "SumOfExpansion of "+name, listResult(impl.SumOfExpansion(x.m, r.lists[0])), f)
			}
		}
		for k, f := range x.polys[:min(len(x.polys), impl.MaxRows)] {
			lists(t, "ExpandPolynomial of P(k)", listResult(impl.ExpandPolynomial(x.m, f)), ofDegree(k))
		}
	}
	lists(t, "ExpandPolynomial", listResult(impl.ExpandPolynomial(catalan(), []int64{3, 2})), []int64{5, 2})
	lists(t, "ExpandPolynomial of 0", listResult(impl.ExpandPolynomial(of(7, 0), nil)), nil)
	lists(t, "ExpandPolynomial of 5", listResult(impl.ExpandPolynomial(of(7, 0), []int64{5})), []int64{5})
}

// isList reports whether all numbers of a list are in 0..p - 1.
func isList(p int64, list []int64) bool {
	return !slices.ContainsFunc(list, func(x int64) bool { return x < 0 || x >= p })
}

func TestSumOfExpansion(t *testing.T) {
	d := &dice{82}
	for _, x := range allTold() {
		p := x.m.Prime
		for count := range impl.MaxRows + 1 {
			// Zeros need P(k) too, and are left out at the end of the sum.
			for _, list := range [][]int64{d.list(p, count), d.poly(p, count), make([]int64, count), slices.Repeat([]int64{p - 1}, count)} {
				name := fmt.Sprintf("SumOfExpansion of %v and %v", x.m, list)
				r := listResult(impl.SumOfExpansion(x.m, list))
				if count > len(x.polys) {
					fails(t, name, r, impl.ErrState)
				} else {
					lists(t, name, r, x.sum(list))
				}
			}
		}
	}
	lists(t, "SumOfExpansion", listResult(impl.SumOfExpansion(catalan(), []int64{5, 2})), []int64{3, 2})
	lists(t, "SumOfExpansion with 0 at the end", listResult(impl.SumOfExpansion(catalan(), []int64{5, 2, 0})), []int64{3, 2})
	lists(t, "SumOfExpansion of zeros", listResult(impl.SumOfExpansion(catalan(), []int64{0, 0, 0})), nil)
	lists(t, "SumOfExpansion of nothing", listResult(impl.SumOfExpansion(of(7, 0), nil)), nil)
	fails(t, "SumOfExpansion of zeros that are too many", listResult(impl.SumOfExpansion(catalan(), []int64{0, 0, 0, 0})), impl.ErrState)
}

// TestNumbersOfExpansions checks that the numbers of the expansion are the quotients of L of
// f P(k) and the norms.
func TestNumbersOfExpansions(t *testing.T) {
	d := &dice{83}
	for _, x := range allTold() {
		p := x.m.Prime
		f := d.poly(p, min(x.order, impl.MaxRows))
		list, _ := impl.ExpandPolynomial(x.m, f)
		for k, c := range list {
			if y := slowFunctional(x.m, slowProduct(p, f, x.polys[k])) * x.inverses[k] % p; c != y {
				t.Errorf("ExpandPolynomial of %v and %v has %d at %d, not %d", x.m, f, c, k, y)
			}
		}
	}
}

func TestKernels(t *testing.T) {
	d := &dice{84}
	for _, x := range allTold() {
		p := x.m.Prime
		for n := range impl.MaxRows {
			for _, a := range []int64{0, p - 1, d.below(p)} {
				checkKernel(t, d, x, n, a)
			}
		}
	}
	lists(t, "KernelOf", listResult(impl.KernelOf(catalan(), 1, 1)), []int64{1})
	lists(t, "KernelOf", listResult(impl.KernelOf(catalan(), 1, 3)), []int64{6, 2})
	num(t, "KernelAt", numResult(impl.KernelAt(catalan(), 1, 1, 4)), 1)
	num(t, "KernelAt", numResult(impl.KernelAt(catalan(), 1, 3, 4)), 0)
	num(t, "ReproduceAt", numResult(impl.ReproduceAt(catalan(), 1, []int64{3, 2}, 4)), 4)
	num(t, "ReproduceAt of 0", numResult(impl.ReproduceAt(catalan(), 1, nil, 4)), 0)
	lists(t, "KernelOf 0", listResult(impl.KernelOf(of(7, 3), 0, 6)), []int64{5})
	fails(t, "KernelOf the order 0", listResult(impl.KernelOf(of(7, 0), 0, 6)), impl.ErrState)
	fails(t, "ReproduceAt of 0 for the order 0", numResult(impl.ReproduceAt(of(7, 0), 0, nil, 6)), impl.ErrState)
	// P(2) is told, its norm is not.
	fails(t, "KernelOf with too few moments", listResult(impl.KernelOf(catalan(), 2, 1)), impl.ErrState)
}

// checkKernel checks the kernel of n and a, its values, which do not depend on the order of the two
// numbers, and that it reproduces values.
func checkKernel(t *testing.T, d *dice, x told, n int, a int64) {
	t.Helper()
	p, b := x.m.Prime, d.below(x.m.Prime)
	name := fmt.Sprintf("KernelOf %v, %d and %d", x.m, n, a)
	kernel := listResult(impl.KernelOf(x.m, int64(n), a))
	value := numResult(impl.KernelAt(x.m, int64(n), a, b))
	f := d.poly(p, int(d.below(int64(n)+2)))
	reproduced := numResult(impl.ReproduceAt(x.m, int64(n), f, a))
	if n >= x.order {
		fails(t, name, kernel, impl.ErrState)
		fails(t, "KernelAt for "+name, value, impl.ErrState)
		fails(t, "ReproduceAt for "+name, reproduced, impl.ErrState)
		return
	}
	want := x.kernel(n, a)
	lists(t, name, kernel, want)
	num(t, "KernelAt for "+name, value, slowValue(p, want, b))
	num(t, "KernelAt exchanged", numResult(impl.KernelAt(x.m, int64(n), b, a)), value.num)
	num(t, "ReproduceAt for "+name, reproduced, slowValue(p, f, a))
	num(t, "L for "+name, reproduced, slowFunctional(x.m, slowProduct(p, kernel.lists[0], f)))
	num(t, "ReproduceAt of x^n", numResult(impl.ReproduceAt(x.m, int64(n), ofDegree(n), a)), slowPower(p, a, int64(n)))
}
