package tests

import (
	"math"
	"runtime"
	"slices"
	"sync"
	"testing"

	"loop.example/g01283/impl"
)

// Values that no argument of a small range contains.
var extremes = []int64{math.MinInt64, math.MinInt64 + 1, -1 << 32, -10007, -1, math.MaxInt64 - 1, math.MaxInt64, 1 << 32, 1 << 62}

// Numbers that are no primes in 2..MaxPrime; 10009 and 2147483647 are prime numbers above it.
var noPrimes = append([]int64{0, 1, 4, 91, 9409, 10001, 10005, 10008, 10009, 2147483647}, extremes...)

// result is what any function of the package returns, in one shape.
type result struct {
	lists [][]int64
	num   int64
	text  string
	code  int64
}

func listResult(f []int64, code int64) result { return result{lists: [][]int64{f}, code: code} }

func numResult(n int64, code int64) result { return result{num: n, code: code} }

func textResult(text string, code int64) result { return result{text: text, code: code} }

func pairResult(f, g []int64, code int64) result {
	return result{lists: [][]int64{f, g}, code: code}
}

// first leaves out the code.
func first[R any](r R, code int64) R { return r }

// isZero reports whether everything beside the code has its zero value.
func (r result) isZero() bool {
	for _, f := range r.lists {
		if len(f) > 0 {
			return false
		}
	}
	return r.num == 0 && r.text == ""
}

func (r result) equals(s result) bool {
	return slices.EqualFunc(r.lists, s.lists, slices.Equal[[]int64]) && r.num == s.num && r.text == s.text && r.code == s.code
}

func (r result) clone() result {
	s := r
	s.lists = nil
	for _, f := range r.lists {
		s.lists = append(s.lists, slices.Clone(f))
	}
	return s
}

// fails checks that a call returned an error code and nothing else.
func fails(t *testing.T, name string, r result, code int64) {
	t.Helper()
	if r.code != code {
		t.Errorf("%s: code %d, want %d", name, r.code, code)
	}
	if !r.isZero() {
		t.Errorf("%s: beside the code %d there is %v", name, r.code, r)
	}
}

// sound checks that a call returned a code, and nothing beside an error.
func sound(t *testing.T, name string, r result) {
	t.Helper()
	if r.code < impl.ErrNone || r.code > impl.ErrSyntax || r.code != impl.ErrNone && !r.isZero() {
		t.Errorf("%s = %v", name, r)
	}
}

// lists checks that a call returned these lists and ErrNone.
func lists(t *testing.T, name string, r result, want ...[]int64) {
	t.Helper()
	if r.code != impl.ErrNone || !slices.EqualFunc(r.lists, want, slices.Equal[[]int64]) {
		t.Errorf("%s = %v, code %d, want %v", name, r.lists, r.code, want)
	}
}

// num checks that a call returned this number and ErrNone.
func num(t *testing.T, name string, r result, want int64) {
	t.Helper()
	if r.code != impl.ErrNone || r.num != want {
		t.Errorf("%s = %d, code %d, want %d", name, r.num, r.code, want)
	}
}

// text checks that a call returned this text and ErrNone.
func text(t *testing.T, name string, r result, want string) {
	t.Helper()
	if r.code != impl.ErrNone || r.text != want {
		t.Errorf("%s = %q, code %d, want %q", name, r.text, r.code, want)
	}
}

// guards hands out lists with marked spare capacity and finds out whether any of it was changed.
type guards struct {
	given  [][]int64
	copies [][]int64
}

func (g *guards) list(x ...int64) []int64 {
	whole := append(slices.Clone(x), -71, -72, -73)
	g.given = append(g.given, whole)
	g.copies = append(g.copies, slices.Clone(whole))
	return whole[:len(x)]
}

func (g *guards) unchanged() bool {
	return slices.EqualFunc(g.given, g.copies, slices.Equal[[]int64])
}

// overwrite fills a list, and its spare capacity, with a mark.
func overwrite(f []int64) {
	f = f[:cap(f)]
	for i := range f {
		f[i] = -99
	}
}

// pure checks that a call changes no argument, that it has the same result again, and that its
// results share memory neither with the arguments nor with each other.
func pure(t *testing.T, name string, call func(g *guards) result) {
	t.Helper()
	g := &guards{}
	r := call(g)
	if r.code != impl.ErrNone {
		t.Errorf("%s: code %d", name, r.code)
	}
	if !g.unchanged() {
		t.Errorf("%s changed an argument", name)
	}
	want := r.clone()
	for i := range r.lists {
		apart(t, name, call(&guards{}).lists, i)
		overwrite(r.lists[i])
	}
	if !g.unchanged() {
		t.Errorf("%s: a result shares memory with an argument", name)
	}
	if again := call(&guards{}); !again.equals(want) {
		t.Errorf("%s = %v, then %v", name, want, again)
	}
}

// pureRows is pure for a call with a list of lists, and checks that this list is not changed either.
func pureRows(t *testing.T, name string, numbers [][]int64, call func(rows [][]int64) result) {
	t.Helper()
	pure(t, name, func(g *guards) result {
		whole := [][]int64{}
		for _, row := range numbers {
			whole = append(whole, g.list(row...))
		}
		whole = append(whole, []int64{-71}, nil)
		before := slices.Clone(whole)
		r := call(whole[:len(numbers)])
		for i := range whole {
			if !slices.Equal(whole[i], before[i]) || len(whole[i]) > 0 && &whole[i][0] != &before[i][0] {
				t.Errorf("%s changed a list of lists", name)
			}
		}
		return r
	})
}

// apart checks that overwriting the list at i changes no other one, nor its spare capacity.
func apart(t *testing.T, name string, all [][]int64, i int) {
	t.Helper()
	var before [][]int64
	for _, f := range all {
		before = append(before, slices.Clone(f[:cap(f)]))
	}
	overwrite(all[i])
	for k, f := range all {
		if k != i && !slices.Equal(f[:cap(f)], before[k]) {
			t.Errorf("%s: its results %d and %d share memory", name, i, k)
		}
	}
}

// sameSideBySide checks that calls have the same results when many are made at the same time.
func sameSideBySide(t *testing.T, calls []func() result) {
	t.Helper()
	var want []result
	for _, call := range calls {
		want = append(want, call().clone())
	}
	var group sync.WaitGroup
	for range 8 {
		group.Go(func() {
			for i, call := range calls {
				if r := call(); !r.equals(want[i]) {
					t.Errorf("the call %d = %v, want %v", i, r, want[i])
				}
			}
		})
	}
	group.Wait()
}

// noneLeft checks that there are no more goroutines than before. Those that are done may still be
// about to end.
func noneLeft(t *testing.T, before int) {
	t.Helper()
	for range 1000000 {
		if runtime.NumGoroutine() <= before {
			return
		}
		runtime.Gosched()
	}
	t.Errorf("%d goroutines, %d before", runtime.NumGoroutine(), before)
}

// dice is a row of numbers that look random and are the same in every run.
type dice struct{ state uint64 }

func (d *dice) below(n int64) int64 {
	d.state = d.state*6364136223846793005 + 1442695040888963407
	return int64((d.state >> 33) % uint64(n))
}

// poly returns a polynomial for p with n numbers.
func (d *dice) poly(p int64, n int) []int64 {
	f := d.list(p, n)
	if n > 0 && f[n-1] == 0 {
		f[n-1] = 1 + d.below(p-1)
	}
	return f
}

func (d *dice) list(p int64, n int) []int64 {
	f := make([]int64, n)
	for i := range f {
		f[i] = d.below(p)
	}
	return f
}

// different returns n different numbers in 0..p - 1.
func (d *dice) different(p int64, n int) []int64 {
	var list []int64
	for len(list) < n {
		if x := d.below(p); !slices.Contains(list, x) {
			list = append(list, x)
		}
	}
	return list
}
