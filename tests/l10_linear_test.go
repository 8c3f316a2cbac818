package tests

import (
	"fmt"
	"testing"

	"loop.example/g01283/impl"
)

// hermite3 is the data of the examples.
func hermite3() impl.Jacobi { return data(7, []int64{0, 0, 0}, []int64{1, 1, 2}) }

func TestSquaredNorms(t *testing.T) {
	for _, x := range someLadders() {
		r := listResult(impl.SquaredNorms(x.j))
		lists(t, fmt.Sprintf("SquaredNorms %v", x.j), r, x.norms)
		lists(t, fmt.Sprintf("SquaredNorms %v by the moments", x.j), r, first(impl.NormsOf(x.m)))
	}
	lists(t, "SquaredNorms", listResult(impl.SquaredNorms(hermite3())), []int64{1, 1, 2})
	lists(t, "SquaredNorms", listResult(impl.SquaredNorms(sample())), []int64{1, 3, 1})
	lists(t, "SquaredNorms of one number", listResult(impl.SquaredNorms(data(7, []int64{3}, []int64{5}))), []int64{5})
}

// TestPairLists checks pairings, which are also the functional at the product of the sums.
func TestPairLists(t *testing.T) {
	d := &dice{311}
	for _, x := range someLadders() {
		p, n := x.j.Prime, len(x.j.Alpha)
		for k := range n + 1 {
			for _, a := range someLists(d, p, k) {
				for _, b := range someLists(d, p, int(d.below(int64(n)+1))) {
					name := fmt.Sprintf("PairLists %v of %v and %v", x.j, a, b)
					r := numResult(impl.PairLists(x.j, a, b))
					num(t, name, r, x.pairing(a, b))
					num(t, name+", exchanged", numResult(impl.PairLists(x.j, b, a)), r.num)
				}
			}
			a, b := d.list(p, k), d.list(p, n-k)
			name := fmt.Sprintf("PairLists %v of %v and %v by the functional", x.j, a, b)
			num(t, name, numResult(impl.PairLists(x.j, a, b)), slowFunctional(x.m, slowProduct(p, x.sum(a), x.sum(b))))
			num(t, name+", squared", numResult(impl.PairLists(x.j, a, a)), slowFunctional(x.m, slowProduct(p, x.sum(a), x.sum(a))))
		}
	}
	num(t, "PairLists", numResult(impl.PairLists(hermite3(), []int64{1, 2}, []int64{3, 1, 1})), 5)
	num(t, "PairLists of three numbers", numResult(impl.PairLists(sample(), []int64{1, 2, 3}, []int64{4, 5, 6})), 3)
	num(t, "PairLists of no numbers", numResult(impl.PairLists(sample(), nil, []int64{4, 5, 6})), 0)
	num(t, "PairLists of no numbers at all", numResult(impl.PairLists(sample(), nil, nil)), 0)
	num(t, "PairLists of different places", numResult(impl.PairLists(sample(), []int64{1}, []int64{0, 5, 6})), 0)
}

// TestExpandBy checks the promise that expansions lead back, and that expansions by the moments are the
// same.
func TestExpandBy(t *testing.T) {
	d := &dice{312}
	for _, x := range someLadders() {
		n := len(x.j.Alpha)
		for count := range n + 2 {
			for _, list := range someLists(d, x.j.Prime, count) {
				checkExpand(t, x, cut(list))
			}
		}
		for k, f := range x.polys {
			lists(t, fmt.Sprintf("ExpandBy %v of P(%d)", x.j, k), listResult(impl.ExpandBy(x.j, f)), unit(k))
		}
	}
	lists(t, "ExpandBy", listResult(impl.ExpandBy(hermite3(), []int64{0, 0, 1})), []int64{1, 0, 1})
	lists(t, "ExpandBy", listResult(impl.ExpandBy(sample(), []int64{3, 2})), []int64{5, 2})
	lists(t, "ExpandBy of x^3", listResult(impl.ExpandBy(sample(), []int64{0, 0, 0, 1})), []int64{6, 1, 3, 1})
	lists(t, "ExpandBy of 5", listResult(impl.ExpandBy(sample(), []int64{5})), []int64{5})
	lists(t, "ExpandBy of 0", listResult(impl.ExpandBy(sample(), nil)), nil)
}

// checkExpand checks the expansion of a polynomial of a degree of at most N. Its list is the only one,
// as the degree of P(k) is k.
func checkExpand(t *testing.T, x ladder, f []int64) {
	t.Helper()
	name := fmt.Sprintf("ExpandBy %v of %v", x.j, f)
	list, code := impl.ExpandBy(x.j, f)
	lists(t, name, listResult(list, code), x.expansion(f))
	lists(t, name+", the sum by the definition", listResult(x.sum(list), impl.ErrNone), f)
	lists(t, name+", the sum", listResult(impl.SumBy(x.j, list)), f)
	if len(f) <= len(x.j.Alpha) {
		lists(t, name+" by the moments", listResult(impl.ExpandPolynomial(x.m, f)), list)
	}
}

func TestSumByAndValueBy(t *testing.T) {
	d := &dice{313}
	for _, x := range someLadders() {
		for count := range len(x.j.Alpha) + 2 {
			for _, list := range someLists(d, x.j.Prime, count) {
				checkSum(t, d, x, list)
			}
		}
	}
	lists(t, "SumBy", listResult(impl.SumBy(hermite3(), []int64{1, 0, 1})), []int64{0, 0, 1})
	lists(t, "SumBy", listResult(impl.SumBy(sample(), []int64{5, 2})), []int64{3, 2})
	lists(t, "SumBy of N + 1 numbers", listResult(impl.SumBy(sample(), []int64{6, 1, 3, 1})), []int64{0, 0, 0, 1})
	lists(t, "SumBy with 0 at the end", listResult(impl.SumBy(sample(), []int64{5, 2, 0})), []int64{3, 2})
	lists(t, "SumBy of zeros", listResult(impl.SumBy(sample(), make([]int64, 4))), nil)
	lists(t, "SumBy of no numbers", listResult(impl.SumBy(sample(), nil)), nil)
	num(t, "ValueBy", numResult(impl.ValueBy(hermite3(), []int64{1, 0, 1}, 3)), 2)
	num(t, "ValueBy", numResult(impl.ValueBy(sample(), []int64{5, 2}, 4)), 4)
	num(t, "ValueBy of N + 1 numbers", numResult(impl.ValueBy(sample(), []int64{6, 1, 3, 1}, 3)), 6)
	num(t, "ValueBy of no numbers", numResult(impl.ValueBy(sample(), nil, 6)), 0)
}

// checkSum checks the sum of a list, its value at some numbers, and that it leads back to the list,
// without zeros at the end.
func checkSum(t *testing.T, d *dice, x ladder, list []int64) {
	t.Helper()
	p, want := x.j.Prime, x.sum(list)
	name := fmt.Sprintf("SumBy %v of %v", x.j, list)
	r := listResult(impl.SumBy(x.j, list))
	lists(t, name, r, want)
	lists(t, name+", its expansion", listResult(impl.ExpandBy(x.j, r.lists[0])), cut(list))
	for _, a := range []int64{0, p - 1, d.below(p)} {
		value := numResult(impl.ValueBy(x.j, list, a))
		num(t, fmt.Sprintf("ValueBy %v of %v at %d", x.j, list, a), value, slowValue(p, want, a))
		sum := int64(0)
		for k, c := range list {
			at, _ := impl.ValueOf(x.j, int64(k), a)
			sum = (sum + c*at) % p
		}
		num(t, fmt.Sprintf("ValueBy %v of %v at %d, by values", x.j, list, a), value, sum)
	}
}

// TestExpandProduct checks the promise that products do not depend on the order, and their pairing with
// P(0).
func TestExpandProduct(t *testing.T) {
	for _, x := range someLadders() {
		n := len(x.j.Alpha)
		for k := range n + 1 {
			for l := range n + 1 - k {
				name := fmt.Sprintf("ExpandProduct %v of %d and %d", x.j, k, l)
				r := listResult(impl.ExpandProduct(x.j, int64(k), int64(l)))
				lists(t, name, r, x.expansion(slowProduct(x.j.Prime, x.polys[k], x.polys[l])))
				lists(t, name+", exchanged", listResult(impl.ExpandProduct(x.j, int64(l), int64(k))), r.lists...)
				if k+l == n {
					continue
				}
				pairing := int64(0)
				if k == l {
					pairing = x.norms[k]
				}
				num(t, name+", its pairing with P(0)", numResult(impl.PairLists(x.j, r.lists[0], []int64{1})), pairing)
			}
			lists(t, "ExpandProduct by P(0)", listResult(impl.ExpandProduct(x.j, 0, int64(k))), unit(k))
		}
	}
	lists(t, "ExpandProduct", listResult(impl.ExpandProduct(hermite3(), 1, 1)), []int64{1, 0, 1})
	lists(t, "ExpandProduct", listResult(impl.ExpandProduct(hermite3(), 1, 2)), []int64{0, 2, 0, 1})
	lists(t, "ExpandProduct", listResult(impl.ExpandProduct(sample(), 1, 1)), []int64{3, 1, 1})
	lists(t, "ExpandProduct of 0 and 0", listResult(impl.ExpandProduct(sample(), 0, 0)), []int64{1})
}

// TestConnectJacobi checks connections, and that there and back they are the polynomial.
func TestConnectJacobi(t *testing.T) {
	d := &dice{314}
	byPrime := map[int64][]ladder{}
	for _, x := range someLadders() {
		byPrime[x.j.Prime] = append(byPrime[x.j.Prime], x)
	}
	for _, x := range someLadders() {
		all := byPrime[x.j.Prime]
		for range 3 {
			checkConnections(t, x, all[d.below(int64(len(all)))])
		}
		checkConnections(t, x, x)
		for k := range x.polys {
			lists(t, "ConnectJacobi to the same data", listResult(impl.ConnectJacobi(x.j, x.j, int64(k))), unit(k))
		}
	}
	catalan, _ := impl.NamedJacobi("catalan", 7, 3)
	lists(t, "ConnectJacobi", listResult(impl.ConnectJacobi(hermite3(), catalan, 1)), []int64{1, 1})
	lists(t, "ConnectJacobi", listResult(impl.ConnectJacobi(hermite3(), catalan, 2)), []int64{1, 3, 1})
	lists(t, "ConnectJacobi back", listResult(impl.ConnectJacobi(catalan, hermite3(), 2)), []int64{2, 4, 1})
	lists(t, "ConnectJacobi of 0", listResult(impl.ConnectJacobi(catalan, hermite3(), 0)), []int64{1})
}

func checkConnections(t *testing.T, x, y ladder) {
	t.Helper()
	for k := range min(len(x.polys), len(y.polys)) {
		name := fmt.Sprintf("ConnectJacobi from %v to %v of %d", x.j, y.j, k)
		list, code := impl.ConnectJacobi(x.j, y.j, int64(k))
		lists(t, name, listResult(list, code), y.expansion(x.polys[k]))
		lists(t, name+", the sum", listResult(impl.SumBy(y.j, list)), x.polys[k])
		back := make([]int64, k+1)
		for i, c := range list {
			other, _ := impl.ConnectJacobi(y.j, x.j, int64(i))
			for l, b := range other {
				back[l] = (back[l] + c*b) % x.j.Prime
			}
		}
		lists(t, name+" and back", listResult(back, impl.ErrNone), unit(k))
	}
}

func TestExpandDerivative(t *testing.T) {
	for _, x := range someLadders() {
		for k, f := range x.polys {
			name := fmt.Sprintf("ExpandDerivative %v of %d", x.j, k)
			derivative := slowDerivative(x.j.Prime, f)
			r := listResult(impl.ExpandDerivative(x.j, int64(k)))
			lists(t, name, r, x.expansion(derivative))
			lists(t, name+", the sum", listResult(impl.SumBy(x.j, r.lists[0])), derivative)
		}
	}
	// Of hermite the derivative of P(k) is k P(k - 1).
	for _, p := range familyPrimes {
		for n := int64(1); n <= min(p, 12); n++ {
			hermite, _ := impl.NamedJacobi("hermite", p, n)
			for k := range n + 1 {
				want := append(make([]int64, max(k-1, 0)), k%p)
				lists(t, "ExpandDerivative of hermite", listResult(impl.ExpandDerivative(hermite, k)), cut(want))
			}
		}
	}
	lists(t, "ExpandDerivative", listResult(impl.ExpandDerivative(hermite3(), 2)), []int64{0, 2})
	lists(t, "ExpandDerivative", listResult(impl.ExpandDerivative(sample(), 2)), []int64{6, 2})
	lists(t, "ExpandDerivative of P(0)", listResult(impl.ExpandDerivative(sample(), 0)), nil)
	lists(t, "ExpandDerivative of P(1)", listResult(impl.ExpandDerivative(sample(), 1)), []int64{1})
	// Modulo 2 the derivative of x^2 + 1 is 0, and that of x^2 + x is 1.
	lists(t, "ExpandDerivative of 0", listResult(impl.ExpandDerivative(data(2, []int64{0, 0}, []int64{1, 1}), 2)), nil)
	lists(t, "ExpandDerivative of a lesser degree", listResult(impl.ExpandDerivative(data(2, []int64{1, 0}, []int64{1, 1}), 2)), []int64{1})
}

// TestTimesX checks the promise that products by x are expansions.
func TestTimesX(t *testing.T) {
	d := &dice{315}
	for _, x := range someLadders() {
		p, n := x.j.Prime, len(x.j.Alpha)
		for count := range n + 1 {
			for _, list := range someLists(d, p, count) {
				list = cut(list)
				name := fmt.Sprintf("TimesX %v of %v", x.j, list)
				r := listResult(impl.TimesX(x.j, list))
				lists(t, name, r, x.timesX(list))
				times := slowProduct(p, []int64{0, 1}, x.sum(list))
				lists(t, name+" by the definition", r, x.expansion(times))
				lists(t, name+" as an expansion", listResult(impl.ExpandBy(x.j, times)), r.lists...)
			}
		}
		for k := range n {
			want := append(unit(k), 1)
			want[k] = x.j.Alpha[k]
			if k > 0 {
				want[k-1] = x.j.Beta[k]
			}
			lists(t, fmt.Sprintf("TimesX %v of P(%d)", x.j, k), listResult(impl.TimesX(x.j, unit(k))), want)
		}
	}
	lists(t, "TimesX", listResult(impl.TimesX(hermite3(), []int64{0, 1})), []int64{1, 0, 1})
	lists(t, "TimesX of N numbers", listResult(impl.TimesX(sample(), []int64{1, 2, 3})), []int64{0, 6, 2, 3})
	lists(t, "TimesX of one number", listResult(impl.TimesX(sample(), []int64{4})), []int64{4, 4})
	lists(t, "TimesX of no numbers", listResult(impl.TimesX(sample(), nil)), nil)
}

// TestAllLists checks all lists, with any zeros, for all data of few numbers modulo 2 and 3.
func TestAllLists(t *testing.T) {
	d := &dice{316}
	for _, s := range []struct {
		p int64
		n int
	}{{2, 4}, {3, 2}} {
		for n := 1; n <= s.n; n++ {
			for _, j := range allData(s.p, n, s.p-1) {
				x := climb(j)
				for count := range n + 2 {
					for _, list := range allLists(s.p, count) {
						checkSum(t, d, x, list)
						checkExpand(t, x, cut(list))
						if count <= n && len(cut(list)) == count {
							lists(t, fmt.Sprintf("TimesX %v of %v", j, list), listResult(impl.TimesX(j, list)), x.timesX(list))
						}
					}
				}
			}
		}
	}
}
