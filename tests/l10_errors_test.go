package tests

import (
	"fmt"
	"math"
	"slices"
	"testing"

	"loop.example/g01283/impl"
)

// linearArguments are what functions of chapter 10 take: data, perhaps others, a polynomial, lists, and
// numbers.
type linearArguments struct {
	j, q    impl.Jacobi
	f       []int64
	lists   [2][]int64
	numbers [2]int64
}

// linearCall is a function of chapter 10 that takes data. Its lists are as long as the data at most, and
// by more longer; its ranges are the limits of its numbers for the prime p and data of n numbers.
type linearCall struct {
	name   string
	ofTwo  bool
	ofPoly bool
	lists  int
	more   int
	ranges func(p, n int64) [][2]int64
	call   func(x linearArguments) result
}

func toSize(p, n int64) [][2]int64 { return [][2]int64{{0, n}} }

var linearCalls = []linearCall{
	{"SquaredNorms", false, false, 0, 0, noNumbers, func(x linearArguments) result { return listResult(impl.SquaredNorms(x.j)) }},
	{"PairLists", false, false, 2, 0, noNumbers, func(x linearArguments) result {
		return numResult(impl.PairLists(x.j, x.lists[0], x.lists[1]))
	}},
	{"ExpandBy", false, true, 0, 0, noNumbers, func(x linearArguments) result { return listResult(impl.ExpandBy(x.j, x.f)) }},
	{"SumBy", false, false, 1, 1, noNumbers, func(x linearArguments) result { return listResult(impl.SumBy(x.j, x.lists[0])) }},
	{"ValueBy", false, false, 1, 1, func(p, n int64) [][2]int64 { return [][2]int64{{0, p - 1}} }, func(x linearArguments) result {
		return numResult(impl.ValueBy(x.j, x.lists[0], x.numbers[0]))
	}},
	{"ExpandProduct", false, false, 0, 0, func(p, n int64) [][2]int64 { return [][2]int64{{0, n}, {0, n}} }, func(x linearArguments) result {
		return listResult(impl.ExpandProduct(x.j, x.numbers[0], x.numbers[1]))
	}},
	{"ConnectJacobi", true, false, 0, 0, toSize, func(x linearArguments) result {
		return listResult(impl.ConnectJacobi(x.j, x.q, x.numbers[0]))
	}},
	{"ExpandDerivative", false, false, 0, 0, toSize, func(x linearArguments) result {
		return listResult(impl.ExpandDerivative(x.j, x.numbers[0]))
	}},
	{"TimesX", false, false, 1, 0, noNumbers, func(x linearArguments) result { return listResult(impl.TimesX(x.j, x.lists[0])) }},
}

// wrongLater are arguments for data modulo 7 of three numbers in which other things are wrong than the
// data and the polynomial, if anything.
func wrongLater() []linearArguments {
	all := []linearArguments{{j: sample(), q: sample()}, {j: sample(), q: data(11, []int64{1}, []int64{1}), f: longest(7)}}
	for _, list := range [][]int64{{1, 2, 3, 4, 5}, {7}, {1, 0}, {-1}, make([]int64, 100000)} {
		all = append(all, linearArguments{sample(), sample(), ofDegree(4), [2][]int64{list, list}, [2]int64{}})
	}
	for _, n := range append([]int64{4, 7}, extremes...) {
		all = append(all, linearArguments{sample(), sample(), nil, [2][]int64{}, [2]int64{n, n}})
	}
	return all
}

// TestNoDataOfExpansions checks that what is no data, or no polynomial, comes first.
func TestNoDataOfExpansions(t *testing.T) {
	for _, c := range linearCalls {
		for _, x := range wrongLater() {
			for _, bad := range badData() {
				y := x
				y.j = bad
				name := fmt.Sprintf("%s of no data, of the prime %d", c.name, bad.Prime)
				fails(t, name, c.call(y), impl.ErrInvalid)
				y.q = bad
				fails(t, name+", twice", c.call(y), impl.ErrInvalid)
				y.j = x.j
				if c.ofTwo {
					fails(t, name+", the second ones", c.call(y), impl.ErrInvalid)
				}
			}
			for _, bad := range badPolys(7) {
				x.f = bad
				if c.ofPoly {
					fails(t, fmt.Sprintf("%s of no polynomial", c.name), c.call(x), impl.ErrInvalid)
				}
			}
		}
	}
	// A polynomial for another prime.
	fails(t, "ExpandBy of no polynomial for 2", listResult(impl.ExpandBy(data(2, []int64{1}, []int64{1}), []int64{2})), impl.ErrInvalid)
	fails(t, "ExpandBy of no polynomial for 2", listResult(impl.ExpandBy(data(2, []int64{1}, []int64{1}), []int64{1, 1, 3})), impl.ErrInvalid)
}

func TestPolynomialsOfTooGreatDegree(t *testing.T) {
	d := &dice{321}
	for _, p := range somePrimes {
		for _, j := range someData(d, p) {
			n := len(j.Alpha)
			for count := range impl.MaxDegree + 2 {
				r := listResult(impl.ExpandBy(j, d.poly(p, count)))
				if count > n+1 {
					fails(t, fmt.Sprintf("ExpandBy of %d numbers, %d in the data", count, n), r, impl.ErrRange)
				} else if r.code != impl.ErrNone || len(r.lists[0]) != count {
					t.Errorf("ExpandBy of %d numbers, %d in the data: %v", count, n, r)
				}
			}
		}
	}
}

func TestListsOfExpansionsOutOfRange(t *testing.T) {
	d := &dice{322}
	for _, c := range linearCalls {
		for _, p := range somePrimes {
			for n := 1; n <= impl.MaxRows; n++ {
				for i := range c.lists {
					checkListLimits(t, c, linearArguments{j: d.data(p, n)}, i)
				}
			}
		}
	}
}

// checkListLimits replaces one list, the others being empty, by those of all lengths, and by those with
// what is no number modulo p.
func checkListLimits(t *testing.T, c linearCall, x linearArguments, i int) {
	t.Helper()
	p, most := x.j.Prime, len(x.j.Alpha)+c.more
	call := func(list []int64) result {
		x.lists[i] = list
		return c.call(x)
	}
	for n := range 16 {
		r := call(slices.Repeat([]int64{1}, n))
		if n > most {
			fails(t, fmt.Sprintf("%s with a list of %d numbers, %d in the data", c.name, n, len(x.j.Alpha)), r, impl.ErrRange)
			fails(t, fmt.Sprintf("%s with a list of %d zeros", c.name, n), call(make([]int64, n)), impl.ErrRange)
		} else if r.code != impl.ErrNone {
			t.Errorf("%s with a list of %d numbers, %d in the data: code %d", c.name, n, len(x.j.Alpha), r.code)
		}
	}
	fails(t, c.name+" with a long list", call(make([]int64, 100000)), impl.ErrRange)
	for k := range most {
		for _, bad := range append([]int64{p, p + 1, math.MinInt32}, extremes...) {
			list := slices.Repeat([]int64{1}, most)
			list[k] = bad
			fails(t, fmt.Sprintf("%s with %d in a list", c.name, bad), call(list), impl.ErrRange)
			fails(t, fmt.Sprintf("%s with %d at the end of a list", c.name, bad), call(list[:k+1]), impl.ErrRange)
		}
		list := slices.Repeat([]int64{p - 1}, k+1)
		if r := call(list); r.code != impl.ErrNone {
			t.Errorf("%s with %v: code %d", c.name, list, r.code)
		}
	}
}

// TestZerosAtTheEnd checks that TimesX does not take them, while other functions do.
func TestZerosAtTheEnd(t *testing.T) {
	d := &dice{323}
	for _, p := range somePrimes {
		for n := 1; n <= impl.MaxRows; n++ {
			j := d.data(p, n)
			for count := 1; count <= n; count++ {
				for _, list := range [][]int64{make([]int64, count), append(d.list(p, count-1), 0)} {
					fails(t, fmt.Sprintf("TimesX of %v", list), listResult(impl.TimesX(j, list)), impl.ErrRange)
					x := linearArguments{j: j, lists: [2][]int64{list, list}}
					for _, c := range linearCalls {
						if r := c.call(x); c.name != "TimesX" && c.lists > 0 && r.code != impl.ErrNone {
							t.Errorf("%s of %v: code %d", c.name, list, r.code)
						}
					}
				}
			}
		}
	}
}

func TestNumbersOfExpansionsOutOfRange(t *testing.T) {
	d := &dice{324}
	for _, c := range linearCalls {
		for _, p := range somePrimes {
			for n := 1; n <= impl.MaxRows; n++ {
				j := d.data(p, n)
				for i, limits := range c.ranges(p, int64(n)) {
					checkLinearLimits(t, c, linearArguments{j: j, q: j, lists: [2][]int64{{1}}}, i, limits)
				}
			}
		}
	}
}

// checkLinearLimits replaces one of good numbers, which are all 0, by its limits, and by what is beyond
// them.
func checkLinearLimits(t *testing.T, c linearCall, x linearArguments, i int, limits [2]int64) {
	t.Helper()
	call := func(n, other int64) result {
		x.numbers = [2]int64{other, other}
		x.numbers[i] = n
		return c.call(x)
	}
	for _, n := range limits {
		if r := call(n, 0); r.code != impl.ErrNone {
			t.Errorf("%s with the number %d in %v: code %d", c.name, n, limits, r.code)
		}
	}
	for _, n := range append([]int64{limits[0] - 1, limits[1] + 1, limits[1] + 2, math.MinInt32}, extremes...) {
		name := fmt.Sprintf("%s with the number %d at %d not in %v", c.name, n, i, limits)
		for _, other := range []int64{0, 1, limits[1], n} {
			fails(t, name, call(n, other), impl.ErrRange)
		}
	}
}

// TestProductsOfTooGreatDegree checks all k and l that are together N, or more, also by overflow.
func TestProductsOfTooGreatDegree(t *testing.T) {
	d := &dice{325}
	for n := int64(1); n <= impl.MaxRows; n++ {
		j := d.data(101, int(n))
		for k := int64(-2); k <= n+2; k++ {
			for l := int64(-2); l <= n+2; l++ {
				r := listResult(impl.ExpandProduct(j, k, l))
				if k < 0 || l < 0 || k+l > n {
					fails(t, fmt.Sprintf("ExpandProduct of %d and %d, %d in the data", k, l, n), r, impl.ErrRange)
				} else if r.code != impl.ErrNone || int64(len(r.lists[0])) != k+l+1 {
					t.Errorf("ExpandProduct of %d and %d, %d in the data: %v", k, l, n, r)
				}
			}
		}
		for _, k := range extremes {
			for _, l := range slices.Concat(extremes, []int64{0, 1, n, -k, -k - 1, -k + 1, -k + n, -k - 2}) {
				fails(t, fmt.Sprintf("ExpandProduct of %d and %d", k, l), listResult(impl.ExpandProduct(j, k, l)), impl.ErrRange)
				fails(t, fmt.Sprintf("ExpandProduct of %d and %d", l, k), listResult(impl.ExpandProduct(j, l, k)), impl.ErrRange)
			}
		}
	}
}

// TestConnectionsOutOfRange checks that primes have to be equal, and k in its range for both data.
func TestConnectionsOutOfRange(t *testing.T) {
	d := &dice{326}
	for _, p := range somePrimes {
		for n := 1; n <= impl.MaxRows; n++ {
			for m := 1; m <= impl.MaxRows; m++ {
				j, q := d.data(p, n), d.data(p, m)
				for k := int64(-1); k <= impl.MaxRows+1; k++ {
					name := fmt.Sprintf("ConnectJacobi for %d of %d, %d and %d in the data", p, k, n, m)
					r := listResult(impl.ConnectJacobi(j, q, k))
					if k < 0 || k > int64(min(n, m)) {
						fails(t, name, r, impl.ErrRange)
					} else if r.code != impl.ErrNone || int64(len(r.lists[0])) != k+1 {
						t.Errorf("%s: %v", name, r)
					}
				}
			}
		}
		for _, other := range somePrimes {
			j, q := data(p, []int64{1}, []int64{1}), data(other, []int64{1}, []int64{1})
			for k := int64(-1); k <= 2 && p != other; k++ {
				fails(t, fmt.Sprintf("ConnectJacobi for %d and %d", p, other), listResult(impl.ConnectJacobi(j, q, k)), impl.ErrRange)
			}
		}
	}
}

// TestAnyExpansions calls all functions with all arguments of a grid: none panics, and beside an error
// nothing is returned.
func TestAnyExpansions(t *testing.T) {
	d := &dice{327}
	numbers := append([]int64{0, 1, 2, 3, 6, 7, 11, 12, 13, 24, 10006, 10007}, extremes...)
	someLists := append(badPolys(7), nil, []int64{1}, []int64{0, 1}, []int64{6, 4, 1}, longest(2), longest(7), longest(7)[:12], ofDegree(12), ofDegree(24))
	all := append(badData(), sample(), d.data(2, 12), d.data(10007, 12), d.data(3, 1))
	for _, j := range all {
		for _, c := range linearCalls {
			for _, list := range someLists {
				for _, n := range numbers {
					x := linearArguments{j, all[d.below(int64(len(all)))], list, [2][]int64{list, someLists[d.below(int64(len(someLists)))]}, [2]int64{n, 1}}
					sound(t, c.name, c.call(x))
					x.numbers[1] = numbers[d.below(int64(len(numbers)))]
					sound(t, c.name, c.call(x))
				}
			}
		}
	}
	for _, name := range slices.Concat(familyNames, noFamilies) {
		for _, p := range append([]int64{2, 3, 7, 10007}, noPrimes...) {
			for _, n := range numbers {
				sound(t, "NamedJacobi", jacobiResult(impl.NamedJacobi(name, p, n)))
			}
		}
	}
}
