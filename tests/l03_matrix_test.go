package tests

import (
	"slices"
	"testing"

	"loop.example/g01283/impl"
)

func TestMatrixOf(t *testing.T) {
	d := &dice{51}
	for _, p := range somePrimes {
		for _, j := range someData(d, p) {
			lists(t, "MatrixOf", rowsResult(impl.MatrixOf(j)), slowMatrix(j)...)
		}
	}
	lists(t, "MatrixOf", rowsResult(impl.MatrixOf(sample())), []int64{1, 1, 0}, []int64{3, 2, 1}, []int64{0, 5, 0})
	lists(t, "MatrixOf one number", rowsResult(impl.MatrixOf(data(2, []int64{1}, []int64{1}))), []int64{1})
}

// TestMatricesOfData checks that the polynomials of data are the characteristic polynomials of the
// matrices of cut data.
func TestMatricesOfData(t *testing.T) {
	d := &dice{52}
	for _, p := range somePrimes {
		for _, j := range someData(d, p) {
			for k := int64(1); k <= int64(len(j.Alpha)); k++ {
				part, _ := impl.CutJacobi(j, k)
				rows, _ := impl.MatrixOf(part)
				f, _ := impl.PolyOf(j, k)
				lists(t, "CharacteristicPoly", listResult(impl.CharacteristicPoly(p, rows)), f)
			}
		}
	}
}

func TestCharacteristicPoly(t *testing.T) {
	d := &dice{53}
	for _, p := range somePrimes {
		for n := range 8 {
			for rare := int64(1); rare < 6; rare++ {
				for range 10 {
					rows := d.square(p, n, rare)
					lists(t, "CharacteristicPoly", listResult(impl.CharacteristicPoly(p, rows)), slowCharacteristic(p, rows))
				}
			}
		}
		for n := 8; n <= impl.MaxRows; n++ {
			rows := d.square(p, n, 1+int64(n%3))
			lists(t, "CharacteristicPoly", listResult(impl.CharacteristicPoly(p, rows)), slowCharacteristic(p, rows))
		}
	}
}

// TestSmallMatrices checks all matrices of at most three rows modulo 2, and of two modulo 3 and 5.
func TestSmallMatrices(t *testing.T) {
	for _, c := range []struct{ p, n int64 }{{2, 1}, {2, 2}, {2, 3}, {3, 1}, {3, 2}, {5, 2}} {
		for number := range slowPower(1<<40, c.p, c.n*c.n) {
			rows := make([][]int64, c.n)
			for i := range rows {
				rows[i] = make([]int64, c.n)
				for k := range rows[i] {
					rows[i][k] = number % c.p
					number /= c.p
				}
			}
			lists(t, "CharacteristicPoly", listResult(impl.CharacteristicPoly(c.p, rows)), slowCharacteristic(c.p, rows))
		}
	}
}

func TestSpecialMatrices(t *testing.T) {
	lists(t, "CharacteristicPoly of no rows", listResult(impl.CharacteristicPoly(7, nil)), []int64{1})
	lists(t, "CharacteristicPoly of no rows", listResult(impl.CharacteristicPoly(2, [][]int64{})), []int64{1})
	lists(t, "CharacteristicPoly of one row", listResult(impl.CharacteristicPoly(7, [][]int64{{3}})), []int64{4, 1})
	lists(t, "CharacteristicPoly of 0", listResult(impl.CharacteristicPoly(7, [][]int64{{0}})), []int64{0, 1})
	lists(t, "CharacteristicPoly", listResult(impl.CharacteristicPoly(5, [][]int64{{0, 1}, {1, 0}})), []int64{4, 0, 1})
	lists(t, "CharacteristicPoly", listResult(impl.CharacteristicPoly(7, [][]int64{{1, 1, 0}, {3, 2, 1}, {0, 5, 0}})), []int64{5, 1, 4, 1})
	// The row below the first one begins with 0, so that rows change places.
	lists(t, "CharacteristicPoly", listResult(impl.CharacteristicPoly(7, [][]int64{{1, 2, 3}, {0, 4, 5}, {6, 1, 2}})), []int64{2, 5, 0, 1})
	for n := range impl.MaxRows + 1 {
		unit, zero := make([][]int64, n), make([][]int64, n)
		power := []int64{1}
		for i := range n {
			zero[i] = make([]int64, n)
			unit[i] = make([]int64, n)
			unit[i][i] = 1
			power = slowProduct(3, power, []int64{2, 1})
		}
		lists(t, "CharacteristicPoly of zeros", listResult(impl.CharacteristicPoly(3, zero)), ofDegree(n))
		lists(t, "CharacteristicPoly of the unit matrix", listResult(impl.CharacteristicPoly(3, unit)), power)
		lists(t, "CharacteristicPoly of a companion", listResult(impl.CharacteristicPoly(2, companion(longest(2)[24-n:]))), longest(2)[24-n:])
	}
	same := []int64{1, 2, 3}
	lists(t, "CharacteristicPoly of one row three times", listResult(impl.CharacteristicPoly(7, [][]int64{same, same, same})), []int64{0, 0, 1, 1})
}

// companion returns the rows of a matrix with the characteristic polynomial f.
func companion(f []int64) [][]int64 {
	rows := make([][]int64, len(f)-1)
	for i := range rows {
		rows[i] = make([]int64, len(rows))
		if i > 0 {
			rows[i][i-1] = 1
		}
		rows[i][len(rows)-1] = modulo(2, -f[i])
	}
	return rows
}

func TestCharacteristicPolyErrors(t *testing.T) {
	bad := []struct {
		name string
		rows [][]int64
	}{
		{"an empty row", [][]int64{{}}},
		{"an empty row among others", [][]int64{{1, 2}, nil}},
		{"short rows", [][]int64{{1}, {2}}},
		{"a short last row", [][]int64{{1, 2}, {3}}},
		{"a long row", [][]int64{{1, 2}, {3, 4, 5}}},
		{"one long row", [][]int64{{1, 2}}},
		{"a row missing", [][]int64{{1, 2, 3}, {4, 5, 6}}},
		{"a number of p", [][]int64{{1, 2}, {3, 7}}},
		{"a number of p ahead", [][]int64{{7, 2}, {3, 1}}},
		{"13 rows", slices.Repeat([][]int64{make([]int64, 13)}, 13)},
		{"13 rows of 12 numbers", slices.Repeat([][]int64{make([]int64, 12)}, 13)},
		{"12 rows of 13 numbers", slices.Repeat([][]int64{make([]int64, 13)}, 12)},
		{"very many rows", slices.Repeat([][]int64{make([]int64, 1000)}, 1000)},
		{"a very long row", [][]int64{make([]int64, 1000000)}},
	}
	for _, x := range append([]int64{8}, extremes...) {
		bad = append(bad, struct {
			name string
			rows [][]int64
		}{"a number out of range", [][]int64{{1, x}, {3, 4}}})
	}
	for _, c := range bad {
		for _, p := range append([]int64{2, 7}, noPrimes...) {
			fails(t, "CharacteristicPoly of "+c.name, listResult(impl.CharacteristicPoly(p, c.rows)), impl.ErrRange)
		}
	}
	for _, p := range noPrimes {
		for _, rows := range [][][]int64{nil, {{0}}, {{1}}, {{0, 1}, {1, 0}}} {
			fails(t, "CharacteristicPoly for no prime", listResult(impl.CharacteristicPoly(p, rows)), impl.ErrRange)
		}
	}
	lists(t, "CharacteristicPoly of 12 rows", listResult(impl.CharacteristicPoly(7, slices.Repeat([][]int64{make([]int64, 12)}, 12))), ofDegree(12))
}
