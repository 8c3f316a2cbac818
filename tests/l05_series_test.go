package tests

import (
	"fmt"
	"slices"
	"testing"

	"loop.example/g01283/impl"
)

func TestLimitsOfSeries(t *testing.T) {
	if impl.MaxSeries != 24 {
		t.Errorf("MaxSeries = %d", impl.MaxSeries)
	}
}

func TestSeriesOf(t *testing.T) {
	d := &dice{101}
	for _, p := range somePrimes {
		for n := range impl.MaxSeries + 1 {
			for range 4 {
				f, g := d.poly(p, int(d.below(26))), d.invertible(p, 1+int(d.below(25)))
				name := fmt.Sprintf("SeriesOf %d, %v, %v and %d", p, f, g, n)
				isSeries(t, name, listResult(impl.SeriesOf(p, f, g, int64(n))), p, f, g, n)
			}
			f := d.poly(p, int(d.below(26)))
			lists(t, "SeriesOf f and 1", listResult(impl.SeriesOf(p, f, []int64{1}, int64(n))), beginning(f, n))
			lists(t, "SeriesOf 0", listResult(impl.SeriesOf(p, nil, d.invertible(p, 25), int64(n))), make([]int64, n))
			lists(t, "SeriesOf 1 and 1 - x", listResult(impl.SeriesOf(p, []int64{1}, []int64{1, p - 1}, int64(n))), slices.Repeat([]int64{1}, n))
		}
	}
	lists(t, "SeriesOf", listResult(impl.SeriesOf(5, []int64{1}, []int64{1, 4}, 3)), []int64{1, 1, 1})
	lists(t, "SeriesOf", listResult(impl.SeriesOf(7, []int64{3}, []int64{2}, 3)), []int64{5, 0, 0})
	lists(t, "SeriesOf", listResult(impl.SeriesOf(7, []int64{1, 2}, []int64{2, 3, 1}, 4)), []int64{4, 2, 2, 3})
	lists(t, "SeriesOf no numbers", listResult(impl.SeriesOf(7, []int64{1, 2}, []int64{2, 3, 1}, 0)), nil)
}

// TestSmallSeries checks all polynomials of at most four numbers modulo 2, and of three modulo 3.
func TestSmallSeries(t *testing.T) {
	for _, c := range []struct {
		p int64
		n int
	}{{2, 4}, {3, 3}} {
		all := allPolys(c.p, c.n)
		for _, f := range all {
			for _, g := range all {
				for n := range 8 {
					name := fmt.Sprintf("SeriesOf %d, %v, %v and %d", c.p, f, g, n)
					r := listResult(impl.SeriesOf(c.p, f, g, int64(n)))
					if len(g) == 0 || g[0] == 0 {
						fails(t, name, r, impl.ErrState)
					} else {
						isSeries(t, name, r, c.p, f, g, n)
					}
				}
			}
		}
	}
}

func TestInverseSeries(t *testing.T) {
	d := &dice{102}
	for _, p := range somePrimes {
		for n := 1; n <= impl.MaxSeries; n++ {
			for range 3 {
				s := d.list(p, n)
				s[0] = 1 + d.below(p-1)
				name := fmt.Sprintf("InverseSeries %d, %v", p, s)
				r := listResult(impl.InverseSeries(p, s))
				isSeries(t, name, r, p, []int64{1}, s, n)
				lists(t, "InverseSeries of "+name, listResult(impl.InverseSeries(p, r.lists[0])), s)
				lists(t, "MultiplySeries with "+name, listResult(impl.MultiplySeries(p, s, r.lists[0])), beginning([]int64{1}, n))
				s[0] = 0
				fails(t, "InverseSeries of 0 at first", listResult(impl.InverseSeries(p, s)), impl.ErrState)
			}
			// Zeros at the end are numbers of the series.
			s := beginning([]int64{p - 1}, n)
			lists(t, "InverseSeries of -1", listResult(impl.InverseSeries(p, s)), s)
			fails(t, "InverseSeries of zeros", listResult(impl.InverseSeries(p, make([]int64, n))), impl.ErrState)
		}
	}
	lists(t, "InverseSeries", listResult(impl.InverseSeries(7, []int64{1, 1, 2})), []int64{1, 6, 6})
	lists(t, "InverseSeries", listResult(impl.InverseSeries(7, []int64{3})), []int64{5})
	lists(t, "InverseSeries", listResult(impl.InverseSeries(2, []int64{1, 1, 0, 0})), []int64{1, 1, 1, 1})
}

func TestMultiplySeries(t *testing.T) {
	d := &dice{103}
	for _, p := range somePrimes {
		for n := range impl.MaxSeries + 1 {
			greatest := slices.Repeat([]int64{p - 1}, n)
			for _, a := range [][]int64{d.list(p, n), make([]int64, n), greatest, beginning([]int64{1}, n)} {
				for _, b := range [][]int64{d.list(p, n), make([]int64, n), greatest, beginning([]int64{0, p - 1}, n)} {
					want := beginning(slowProduct(p, a, b), n)
					lists(t, "MultiplySeries", listResult(impl.MultiplySeries(p, a, b)), want)
					lists(t, "MultiplySeries exchanged", listResult(impl.MultiplySeries(p, b, a)), want)
				}
			}
		}
	}
	lists(t, "MultiplySeries", listResult(impl.MultiplySeries(7, []int64{1, 1, 2}, []int64{1, 6, 6})), []int64{1, 0, 0})
	lists(t, "MultiplySeries", listResult(impl.MultiplySeries(7, []int64{0, 3}, []int64{0, 5})), []int64{0, 0})
	lists(t, "MultiplySeries of nothing", listResult(impl.MultiplySeries(7, nil, nil)), nil)
}

// TestSeriesTimesDenominators checks the promise by the functions of the package.
func TestSeriesTimesDenominators(t *testing.T) {
	d := &dice{104}
	for _, p := range somePrimes {
		for n := 1; n <= impl.MaxSeries; n++ {
			f, g := d.poly(p, int(d.below(int64(n)+1))), d.invertible(p, 1+int(d.below(int64(n))))
			s, _ := impl.SeriesOf(p, f, g, int64(n))
			lists(t, "MultiplySeries of SeriesOf", listResult(impl.MultiplySeries(p, s, beginning(g, n))), beginning(f, n))
			inverse, _ := impl.InverseSeries(p, beginning(g, n))
			lists(t, "MultiplySeries of InverseSeries", listResult(impl.MultiplySeries(p, beginning(f, n), inverse)), s)
		}
	}
}

// TestSeriesOfJacobi checks that the series has the powers of the matrix at all places, also behind
// those of the moments.
func TestSeriesOfJacobi(t *testing.T) {
	d := &dice{105}
	for _, p := range somePrimes {
		for _, j := range someData(d, p) {
			r := len(j.Alpha)
			want := slowMomentsOfJacobi(j, impl.MaxSeries)
			for n := range impl.MaxSeries + 1 {
				lists(t, fmt.Sprintf("SeriesOfJacobi %v and %d", j, n), listResult(impl.SeriesOfJacobi(j, int64(n))), want[:n])
			}
			f := reversed(slowSum(p, nil, slowAssociated(j, r), j.Beta[0]))
			isSeries(t, "SeriesOfJacobi", listResult(impl.SeriesOfJacobi(j, 24)), p, f, reversed(slowPoly(j, r)), 24)
			m, _ := impl.MomentsOfJacobi(j, int64(2*r))
			lists(t, "SeriesOfJacobi of moments", listResult(impl.SeriesOfJacobi(j, int64(2*r))), m.List)
		}
	}
	lists(t, "SeriesOfJacobi", listResult(impl.SeriesOfJacobi(data(7, []int64{1, 2}, []int64{1, 1}), 4)), []int64{1, 1, 2, 5})
	lists(t, "SeriesOfJacobi of x", listResult(impl.SeriesOfJacobi(data(7, []int64{0}, []int64{3}), 3)), []int64{3, 0, 0})
	lists(t, "SeriesOfJacobi of one number", listResult(impl.SeriesOfJacobi(data(7, []int64{2}, []int64{3}), 4)), []int64{3, 6, 5, 3})
	lists(t, "SeriesOfJacobi without numbers", listResult(impl.SeriesOfJacobi(sample(), 0)), nil)
}
