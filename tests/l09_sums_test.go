package tests

import (
	"fmt"
	"slices"
	"strings"
	"testing"

	"loop.example/g01283/impl"
)

// someSums returns some of the heights less than r.
func someSums(d *dice, r int) []int64 {
	return []int64{0, int64(r) - 1, d.below(int64(r))}
}

// TestPathSum checks path sums against the powers of the matrix, and the promise that they are moments.
func TestPathSum(t *testing.T) {
	d := &dice{281}
	for _, p := range somePrimes {
		for _, j := range someData(d, p) {
			r := len(j.Alpha)
			series, _ := impl.SeriesOfJacobi(j, 24)
			for n, power := range slowPowersOfMatrix(j, 25) {
				for _, i := range someSums(d, r) {
					for _, k := range someSums(d, r) {
						num(t, fmt.Sprintf("PathSum %v of %d, %d and %d", j, n, i, k), numResult(impl.PathSum(j, int64(n), i, k)), power[i][k])
					}
				}
				sum, _ := impl.PathSum(j, int64(n), 0, 0)
				if n < 2*r && sum*j.Beta[0]%p != momentsOf(j).List[n] || n < 24 && sum*j.Beta[0]%p != series[n] {
					t.Errorf("PathSum %v of %d is %d, which is no moment", j, n, sum)
				}
			}
		}
	}
	j := data(7, []int64{1, 2}, []int64{1, 3})
	num(t, "PathSum the example", numResult(impl.PathSum(j, 2, 0, 0)), 4)
	num(t, "PathSum of no steps", numResult(impl.PathSum(j, 0, 1, 1)), 1)
	num(t, "PathSum of no steps to another height", numResult(impl.PathSum(j, 0, 0, 1)), 0)
	num(t, "PathSum up", numResult(impl.PathSum(j, 1, 0, 1)), 1)
	num(t, "PathSum down", numResult(impl.PathSum(j, 1, 1, 0)), 3)
	num(t, "PathSum level", numResult(impl.PathSum(j, 1, 1, 1)), 2)
	num(t, "PathSum of one number", numResult(impl.PathSum(data(7, []int64{3}, []int64{5}), 2, 0, 0)), 2)
}

// TestSumsOfWeights checks that path sums are the sums of the weights of the paths one by one.
func TestSumsOfWeights(t *testing.T) {
	d := &dice{282}
	for _, p := range somePrimes {
		for r := 1; r <= 5; r++ {
			j := d.data(p, r)
			for n := range int64(8) {
				for i := range int64(r) {
					for k := range int64(r) {
						checkSumOfWeights(t, j, n, i, k)
					}
				}
			}
		}
	}
	for _, s := range smallData {
		for _, j := range allData(s.p, min(s.n, 3), s.b) {
			for n := range int64(6) {
				checkSumOfWeights(t, j, n, 0, 0)
				checkSumOfWeights(t, j, n, 1, 0)
				checkSumOfWeights(t, j, n, 0, 1)
			}
		}
	}
}

func checkSumOfWeights(t *testing.T, j impl.Jacobi, n, i, k int64) {
	t.Helper()
	name := fmt.Sprintf("of %v of %d, %d and %d", j, n, i, k)
	paths, code := impl.PathsOf(n, i, k, int64(len(j.Alpha))-1)
	if code != impl.ErrNone {
		t.Errorf("PathsOf %s: code %d", name, code)
	}
	want, sum := int64(0), int64(0)
	for _, path := range paths {
		slow, _ := slowWeight(j, path, i)
		weight, code := impl.WeightOfPath(j, path, i)
		if code != impl.ErrNone {
			t.Errorf("WeightOfPath %q %s: code %d", path, name, code)
		}
		want, sum = (want+slow)%j.Prime, (sum+weight)%j.Prime
	}
	num(t, "PathSum "+name, numResult(impl.PathSum(j, n, i, k)), want)
	num(t, "PathSum "+name+" by weights", numResult(impl.PathSum(j, n, i, k)), sum)
}

// checkWeight checks the weight of a text of at most 24 letters D, L and U, and reports whether there is
// one.
func checkWeight(t *testing.T, j impl.Jacobi, path string, i int64) bool {
	t.Helper()
	name := fmt.Sprintf("WeightOfPath %v of %q from %d", j, path, i)
	r := numResult(impl.WeightOfPath(j, path, i))
	want, ok := slowWeight(j, path, i)
	if !ok {
		fails(t, name, r, impl.ErrRange)
		return false
	}
	num(t, name, r, want)
	return true
}

func TestWeightOfPath(t *testing.T) {
	d := &dice{283}
	for _, p := range somePrimes {
		for r := 1; r <= 5; r++ {
			j := d.data(p, r)
			for n := range 7 {
				for _, path := range allTexts(n) {
					for i := range int64(r) + 2 {
						checkWeight(t, j, path, i-1)
					}
				}
			}
		}
		for _, j := range someData(d, p) {
			top := int64(len(j.Alpha)) - 1
			for range 20 {
				n, i := int(d.below(25)), d.below(top+1)
				path := d.path(n, i, top)
				if !checkWeight(t, j, path, i) {
					t.Errorf("%q is no path from %d up to %d", path, i, top)
				}
				// It may be too high, or below 0.
				checkWeight(t, j, d.path(n, i, top+1), d.below(top+1))
			}
		}
	}
	j := sample()
	num(t, "WeightOfPath", numResult(impl.WeightOfPath(j, "ULDL", 0)), 6)
	num(t, "WeightOfPath with the weight 0", numResult(impl.WeightOfPath(j, "UULDD", 0)), 0)
	num(t, "WeightOfPath of no steps", numResult(impl.WeightOfPath(j, "", 2)), 1)
	num(t, "WeightOfPath down", numResult(impl.WeightOfPath(j, "DD", 2)), 1)
	fails(t, "WeightOfPath too high", numResult(impl.WeightOfPath(j, "UUU", 0)), impl.ErrRange)
	fails(t, "WeightOfPath too high and back", numResult(impl.WeightOfPath(j, "UD", 2)), impl.ErrRange)
	fails(t, "WeightOfPath below 0 and back", numResult(impl.WeightOfPath(j, "DU", 0)), impl.ErrRange)
	fails(t, "WeightOfPath of no steps from too high", numResult(impl.WeightOfPath(j, "", 3)), impl.ErrRange)
	num(t, "WeightOfPath of the greatest length", numResult(impl.WeightOfPath(j, strings.Repeat("UD", 12), 0)), 1)
	num(t, "WeightOfPath of 23 steps", numResult(impl.WeightOfPath(j, strings.Repeat("UD", 11)+"U", 0)), 5)
}

// TestTriangles checks the promise that triangles are inverse to each other.
func TestTriangles(t *testing.T) {
	d := &dice{285}
	var all []impl.Jacobi
	for _, p := range somePrimes {
		all = append(all, someData(d, p)...)
	}
	for _, s := range smallData {
		all = append(all, allData(s.p, s.n, s.b)...)
	}
	for _, j := range all {
		r := len(j.Alpha)
		powers := slowPowersOfMatrix(j, r)
		var rows, inverses [][]int64
		for n := range r {
			rows = append(rows, powers[n][0][:n+1])
			inverses = append(inverses, slowPoly(j, n))
		}
		triangle, code := impl.PathTriangle(j)
		isRows(t, fmt.Sprintf("PathTriangle %v", j), rowsResult(triangle, code), rows)
		inverse, code := impl.InverseTriangle(j)
		isRows(t, fmt.Sprintf("InverseTriangle %v", j), rowsResult(inverse, code), inverses)
		isUnit(t, fmt.Sprintf("PathTriangle times InverseTriangle %v", j), slowMatrixProduct(j.Prime, filled(triangle), filled(inverse)))
		isUnit(t, fmt.Sprintf("InverseTriangle times PathTriangle %v", j), slowMatrixProduct(j.Prime, filled(inverse), filled(triangle)))
	}
	isRows(t, "PathTriangle", rowsResult(impl.PathTriangle(sample())), [][]int64{{1}, {1, 1}, {4, 3, 1}})
	isRows(t, "InverseTriangle", rowsResult(impl.InverseTriangle(sample())), [][]int64{{1}, {6, 1}, {6, 4, 1}})
	one := data(2, []int64{0}, []int64{1})
	isRows(t, "PathTriangle of one number", rowsResult(impl.PathTriangle(one)), [][]int64{{1}})
	isRows(t, "InverseTriangle of one number", rowsResult(impl.InverseTriangle(one)), [][]int64{{1}})
}

func isRows(t *testing.T, name string, r result, want [][]int64) {
	t.Helper()
	if !r.equals(rowsResult(want, impl.ErrNone)) {
		t.Errorf("%s = %v, code %d, want %v", name, r.lists, r.code, want)
	}
}

// filled returns the rows of a triangle with zeros behind them.
func filled(triangle [][]int64) [][]int64 {
	rows := make([][]int64, len(triangle))
	for n := range rows {
		rows[n] = append(slices.Clone(triangle[n]), make([]int64, len(triangle)-n-1)...)
	}
	return rows
}

func isUnit(t *testing.T, name string, rows [][]int64) {
	t.Helper()
	for i, row := range rows {
		for k, x := range row {
			if x != 0 && i != k || x != 1 && i == k {
				t.Errorf("%s = %v", name, rows)
				return
			}
		}
	}
}

func TestTurningSums(t *testing.T) {
	d := &dice{286}
	for _, p := range somePrimes {
		for _, j := range someData(d, p) {
			for n := range 25 {
				name := fmt.Sprintf("TurningSums %v of %d", j, n)
				list, code := impl.TurningSums(j, int64(n))
				lists(t, name, listResult(list, code), slowTurningSums(j, n))
				total := int64(0)
				for _, sum := range list {
					total = (total + sum) % p
				}
				num(t, name+", all together", numResult(impl.PathSum(j, int64(n), 0, 0)), total)
			}
		}
		j := d.data(p, 4)
		for n := range 8 {
			checkTurning(t, j, n)
		}
	}
	lists(t, "TurningSums", listResult(impl.TurningSums(sample(), 2)), []int64{1, 3, 0})
	lists(t, "TurningSums of no steps", listResult(impl.TurningSums(sample(), 0)), []int64{1, 0, 0})
	lists(t, "TurningSums of one number", listResult(impl.TurningSums(data(7, []int64{3}, []int64{1}), 2)), []int64{2})
	lists(t, "TurningSums of four steps", listResult(impl.TurningSums(sample(), 4)), []int64{1, 0, 1})
}

// checkTurning adds up the weights of the paths one by one.
func checkTurning(t *testing.T, j impl.Jacobi, n int) {
	t.Helper()
	want := make([]int64, len(j.Alpha))
	for _, path := range slowPathsFrom(n, 0) {
		if weight, ok := slowWeight(j, path.text, 0); ok && path.last == 0 {
			want[path.top] = (want[path.top] + weight) % j.Prime
		}
	}
	lists(t, fmt.Sprintf("TurningSums %v of %d one by one", j, n), listResult(impl.TurningSums(j, int64(n))), want)
}
