package tests

import (
	"strings"
	"testing"

	"loop.example/g01283/impl"
)

func TestPolyText(t *testing.T) {
	cases := []struct {
		p    int64
		f    []int64
		want string
	}{
		{11, nil, "0"}, {11, []int64{}, "0"}, {11, []int64{7}, "7"}, {11, []int64{3, 0, 10}, "10,0,3"}, {2, []int64{0, 1}, "1,0"},
		{10007, []int64{10006, 100, 0, 10}, "10,0,100,10006"},
		{10007, longest(10007), "1,24,23,22,21,20,19,18,17,16,15,14,13,12,11,10,9,8,7,6,5,4,3,2,1"},
	}
	for _, c := range cases {
		text(t, "PolyText", textResult(impl.PolyText(c.p, c.f)), c.want)
		lists(t, "ParsePoly of "+c.want, listResult(impl.ParsePoly(c.p, c.want)), c.f)
	}
}

func TestPolysComeBackFromTheirTexts(t *testing.T) {
	d := &dice{9}
	for _, p := range somePrimes {
		for n := range 26 {
			f := d.poly(p, n)
			s, code := impl.PolyText(p, f)
			if code != impl.ErrNone {
				t.Fatalf("PolyText(%d, %v): code %d", p, f, code)
			}
			lists(t, "ParsePoly of "+s, listResult(impl.ParsePoly(p, s)), f)
		}
	}
	for _, f := range allPolys(3, 4) {
		s, _ := impl.PolyText(3, f)
		lists(t, "ParsePoly of "+s, listResult(impl.ParsePoly(3, s)), f)
	}
}

func TestParsePolySyntax(t *testing.T) {
	bad := []string{
		"", ",", "1,", ",1", "1,,1", "0,1", "0,0", "00", "01", "1,01", "1,00", "-1", "-0", "+1", "1,-1", "1,+1", " 1", "1 ", "1, 1", "1;1",
		"11", "1,11", "11,1", "12", "111", "99999999999999999999", "1,9223372036854775808", "18446744073709551617", "1_0", "0x1", "1e0", "1.0",
		"x", "1x", "a,b", "1\n", "\n1", "1\x00", "\xff", "１", "1,0,", "0,", ",0", ",,", "1,\u0661", "1 0", "1\t",
	}
	for _, s := range bad {
		fails(t, "ParsePoly of "+s, listResult(impl.ParsePoly(11, s)), impl.ErrSyntax)
	}
	lists(t, "ParsePoly of 0", listResult(impl.ParsePoly(11, "0")), nil)
	lists(t, "ParsePoly of 1,0", listResult(impl.ParsePoly(11, "1,0")), []int64{0, 1})
	lists(t, "ParsePoly of 10", listResult(impl.ParsePoly(11, "10")), []int64{10})
	lists(t, "ParsePoly of 10006", listResult(impl.ParsePoly(10007, "10006")), []int64{10006})
	fails(t, "ParsePoly of 10007", listResult(impl.ParsePoly(10007, "10007")), impl.ErrSyntax)
	fails(t, "ParsePoly of 2", listResult(impl.ParsePoly(2, "2")), impl.ErrSyntax)
}

func TestParsePolyLimits(t *testing.T) {
	lists(t, "ParsePoly of 25 numbers", listResult(impl.ParsePoly(11, "1"+strings.Repeat(",0", 24))), ofDegree(24))
	long := []string{
		"1" + strings.Repeat(",0", 25), "1" + strings.Repeat(",1", 25), "0" + strings.Repeat(",1", 25), strings.Repeat(",", 1000000),
		strings.Repeat("1", 1000000), strings.Repeat("0", 1000000), strings.Repeat("1,", 1000000), "1" + strings.Repeat(",1", 1000000),
	}
	for _, s := range long {
		fails(t, "ParsePoly of a long text", listResult(impl.ParsePoly(11, s)), impl.ErrSyntax)
	}
	for _, p := range noPrimes {
		for _, s := range []string{"", "0", "1", "x", "1,0"} {
			fails(t, "ParsePoly for no prime", listResult(impl.ParsePoly(p, s)), impl.ErrRange)
		}
	}
}
