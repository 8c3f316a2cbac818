package tests

import (
	"fmt"
	"slices"
	"strings"
	"testing"

	"loop.example/g01283/impl"
)

// badDesks are none for any reason.
func badDesks() []impl.Desk {
	m, j, f := of(7, 1, 2, 3), sample(), []int64{6, 1}
	bad := []impl.Desk{{}, desk(m, j, 7), desk(m, j, 0, 100, 1), {Moments: m}, {Jacobi: j}, {Polynomial: f}, {Moments: m, Polynomial: f}}
	for _, x := range badMoments() {
		bad = append(bad, desk(x, j, f...), desk(x, data(x.Prime, []int64{1}, []int64{1}), 1))
	}
	for _, x := range badData() {
		bad = append(bad, desk(m, x, f...), desk(of(x.Prime, 1), x, 1))
	}
	for _, x := range badPolys(7) {
		bad = append(bad, desk(m, j, x...))
	}
	// Different primes: each part would do with others.
	small := []int64{1}
	for _, p := range somePrimes {
		for _, q := range somePrimes {
			if p != q {
				bad = append(bad, desk(of(p, small...), data(q, small, small), small...), desk(of(p, 0), data(q, small, small)))
			}
			if p < q {
				bad = append(bad, desk(of(p, small...), data(p, small, small), q-1), desk(of(p, small...), data(q, small, small), q-1))
				bad = append(bad, desk(of(q, small...), data(p, small, small), q-1))
			}
		}
	}
	return bad
}

func TestLinesOnNoDesks(t *testing.T) {
	lines := []string{"", " ", "fly", "moments", "reset 1", "poly x"}
	for _, r := range consoleRows {
		lines = append(lines, r.ordinary)
	}
	for _, bad := range badDesks() {
		name := fmt.Sprintf("RunLine %.300s", fmt.Sprint(bad))
		for _, line := range lines {
			d, output := impl.RunLine(bad, line)
			agrees(t, fmt.Sprintf("%s of %q", name, line), deskResult(d, output), result{lists: make([][]int64, 5)})
		}
	}
}

// isWrong checks that a line is wrong, and leaves the desk as it is.
func isWrong(t *testing.T, d impl.Desk, line string) {
	t.Helper()
	next, output := impl.RunLine(d, line)
	agrees(t, fmt.Sprintf("RunLine %v of %.300q", d, line), deskResult(next, output), deskResult(d, "error"))
}

// isRight checks that a line is not wrong.
func isRight(t *testing.T, d impl.Desk, line string) {
	t.Helper()
	if _, ok := runs(t, d, line); !ok {
		t.Errorf("RunLine %v of %q is wrong", d, line)
	}
}

// ready is a desk on which all ordinary lines are right, also halve.
func ready() impl.Desk {
	return desk(of(101, 1, 0, 2, 0, 7, 0), data(101, []int64{1, 2, 2, 2}, []int64{1, 1, 1, 1}), 0, 1)
}

func TestWordsMissingOrTooMany(t *testing.T) {
	d := ready()
	for _, r := range consoleRows {
		isRight(t, d, r.ordinary)
		words := strings.Split(r.ordinary, " ")
		if r.form != "N.." {
			for n := 1; n < len(words); n++ {
				isWrong(t, d, strings.Join(words[:n], " "))
				isWrong(t, d, words[0]+" "+strings.Join(words[n+1:], " "))
				isWrong(t, d, strings.Join(words[:n], " ")+" ")
			}
			for _, more := range []string{"1", "0", "hermite", words[len(words)-1], "1 1", "1 1 1"} {
				isWrong(t, d, r.ordinary+" "+more)
			}
		}
		// A word too many may be empty.
		for n := range len(words) + 1 {
			for empty := 1; empty <= 3; empty++ {
				isWrong(t, d, strings.Join(slices.Concat(words[:n], make([]string, empty), words[n:]), " "))
			}
		}
		isWrong(t, d, strings.Repeat(" ", 100)+r.ordinary)
		isWrong(t, d, r.ordinary+strings.Repeat(" ", 100000))
		isWrong(t, d, r.ordinary+strings.Repeat(" 1", 100000))
	}
	isWrong(t, d, "moments")
	isWrong(t, d, "moments ")
	isWrong(t, d, "roots ")
	isWrong(t, d, "poly")
	isWrong(t, d, "poly ")
	isWrong(t, d, "named  3")
	isWrong(t, d, "family  3")
	isRight(t, d, "roots")
}

// TestNoCommands checks lines that only resemble one.
func TestNoCommands(t *testing.T) {
	d := ready()
	for _, r := range consoleRows {
		words := strings.Split(r.ordinary, " ")
		rest := strings.TrimPrefix(r.ordinary, words[0])
		names := []string{strings.ToUpper(r.name), strings.ToUpper(r.name[:1]) + r.name[1:], r.name[:len(r.name)-1], r.name[1:], r.name + "s", r.name + "\x00"}
		for _, name := range append(names, r.name+",", r.name+".", r.name+"\t", r.name+"\n", "\ufeff"+r.name, "x", "") {
			isWrong(t, d, name+rest)
		}
		// Only the byte 32 is a blank, and a newline ends no line here.
		for _, space := range []string{"\t", "\n", "\r", "\v", "\f", "\u00a0", "\u2003", "\x85", ",", "\x00"} {
			isWrong(t, d, r.ordinary+space)
			isWrong(t, d, space+r.ordinary)
			if len(words) > 1 {
				isWrong(t, d, strings.ReplaceAll(r.ordinary, " ", space))
			}
		}
		isWrong(t, d, r.ordinary+"\n"+r.ordinary)
	}
	for _, line := range []string{
		"", " ", "  ", "\n", "K", "prime K", "moments N..", "times, mass 1 1", "times 1, mass 1 1", "double, halve", "show, data, look", "execute", "commands",
		"help", "#", "7", "ok", "error", "\xff", "\xff\xfe 1", "é", strings.Repeat("show", 100000), strings.Repeat(" ", 100000), "reset;", "reset reset",
	} {
		isWrong(t, d, line)
	}
}

// wrongNumbers are what is no number of a line in the place of n.
func wrongNumbers(n string) []string {
	return []string{
		"0" + n, "00" + n, "0000000000" + n, "+" + n, "-" + n, "-0", "+0", "00", "--" + n, n + "-", n + ".", n + ".0", "." + n, n + "e0", "0x" + n, "0b1", "0o" + n,
		n + "_0", "_" + n, n + "\t", "\t" + n, n + ",", n + "," + n, "'" + n, "\"" + n + "\"", "1234567890", "1000000000", "9999999999", "00000000" + n + "0",
		"2147483648", "4294967296", "4294967297", "9223372036854775807", "9223372036854775808", "18446744073709551616", "18446744073709551617",
		"-9223372036854775808", strings.Repeat("1", 100000), strings.Repeat("0", 100000) + n, "x", "A", "N", "one", "١", "１", "²", "½", "Ⅳ", "\x00", n + "\x00", "\xff", "-", "+", "",
	}
}

func TestWrongNumbers(t *testing.T) {
	for _, d := range []impl.Desk{ready(), newDeskOf(10007), newDeskOf(101)} {
		for _, r := range consoleRows {
			if r.form == "TEXT" {
				continue
			}
			words := strings.Split(r.ordinary, " ")
			for k := 1; k < len(words); k++ {
				if strings.HasPrefix(r.form, "NAME") && k == 1 {
					continue
				}
				for _, n := range wrongNumbers(words[k]) {
					line := slices.Clone(words)
					line[k] = n
					isWrong(t, d, strings.Join(line, " "))
				}
			}
		}
	}
}

func TestWrongTexts(t *testing.T) {
	d := ready()
	for _, text := range []string{
		"", " ", "1 ", " 1", "1,2 ", " 1,2", "1, 2", "1 ,2", "1 2", "1,2 3", "0,1", "0,0", "00", "01", "1,02", "1,,2", ",1", "1,", ",", "+1", "-1", "1,-1", "x", "1x", "x,0",
		"101", "1,101", "101,1", "1,1000000000", "1,9223372036854775808", "1\t", "1\n", "1\x00", "1;2", "1.0", "1," + strings.Repeat("0,", 24) + "0",
		strings.Repeat("1,", 100000) + "1", strings.Repeat("1 ", 100000), strings.Repeat("1", 100000),
	} {
		isWrong(t, d, "poly "+text)
	}
	for _, text := range []string{"0", "1", "100", "1,0", "100,100", "1," + strings.Repeat("0,", 23) + "0", "1" + strings.Repeat(",100", 24)} {
		next, output := impl.RunLine(d, "poly "+text)
		f, _ := impl.ParsePoly(101, text)
		agrees(t, "poly "+text, deskResult(next, output), deskResult(desk(d.Moments, d.Jacobi, f...), text))
	}
}

func TestWrongNames(t *testing.T) {
	d := ready()
	for _, name := range append(noFamilies, "Uniform", "HERMITE", "second", "legendre") {
		if !strings.Contains(name, "uniform") && !slices.Contains(familyNames, name) {
			isWrong(t, d, "family "+name+" 1")
		}
		if name != "uniform" {
			isWrong(t, d, "named "+name+" 1")
		}
	}
	isWrong(t, d, "family uniform 1")
	for _, name := range []string{"uniform", "laguerre", "hermite", "catalan", "poisson"} {
		isRight(t, d, "named "+name+" 1")
	}
	for _, name := range familyNames {
		isRight(t, d, "family "+name+" 1")
	}
}

// TestLimitsOfLines checks numbers at the limits of the functions, and beyond them, each on the desk behind
// a text.
func TestLimitsOfLines(t *testing.T) {
	many := func(word string, n int) string { return strings.Repeat(" "+word, n) }
	cases := []struct {
		before string
		right  []string
		wrong  []string
	}{
		{"", []string{"prime 2", "prime 3", "prime 9973", "prime 10007"}, []string{"prime 0", "prime 1", "prime 4", "prime 100", "prime 10001", "prime 10008", "prime 10009", "prime 999999937", "prime 999999999"}},
		{"prime 10007", []string{"prime 10007", "moments 10006"}, []string{"moments 10007", "moments 10008", "moments 1 999999999"}},
		{"", []string{"moments" + many("100", 24), "moments 0"}, []string{"moments" + many("1", 25), "moments 101", "moments 1 101 1", "moments 1 102"}},
		{"", []string{"named catalan 1", "named catalan 24"}, []string{"named catalan 0", "named catalan 25", "named catalan 999999999"}},
		{"prime 7", []string{"named uniform 6"}, []string{"named uniform 7", "named uniform 24"}},
		{"", []string{"affine 0 0", "affine 100 100"}, []string{"affine 101 0", "affine 0 101", "affine 999999999 0", "affine 0 999999999"}},
		{"", []string{"times 0", "times 100"}, []string{"times 101", "times 999999999"}},
		{"moments 1 2", []string{"times 1"}, []string{"times 101"}},
		{"moments 1", nil, []string{"times 0", "times 1", "times 100"}},
		{"", []string{"mass 0 0", "mass 100 100"}, []string{"mass 101 0", "mass 0 101"}},
		{"", []string{"divide 0 0", "divide 100 100"}, []string{"divide 101 0", "divide 0 101"}},
		{"named catalan 23", []string{"divide 1 1"}, nil},
		{"named catalan 24", nil, []string{"divide 1 1", "double", "halve"}},
		{"named catalan 12", []string{"double"}, []string{"halve"}},
		{"named catalan 13", nil, []string{"double"}},
		{"named hermite 24", []string{"halve"}, []string{"double"}},
		{"moments 1 0 0 1", nil, []string{"halve"}},
		{"moments 1|poly 100", []string{"product", "apply"}, nil},
		{"moments 1 1|poly 1,0", []string{"product", "apply"}, nil},
		{"moments 1|poly 1,0", nil, []string{"product", "apply"}},
		{"", []string{"jacobi 1", "jacobi 4"}, []string{"jacobi 0", "jacobi 5", "jacobi 12", "jacobi 13", "jacobi 999999999"}},
		{"named catalan 24", []string{"jacobi 12"}, []string{"jacobi 13"}},
		{"moments 1 1 1 1", []string{"jacobi 1"}, []string{"jacobi 2", "orthogonal 2", "kernel 1 0 0"}},
		{"", []string{"family catalan 1", "family catalan 12"}, []string{"family catalan 0", "family catalan 13"}},
		{"prime 7", []string{"family hermite 7"}, []string{"family hermite 8"}},
		{"prime 2", []string{"family second 1", "family hermite 2"}, []string{"family second 2", "family legendre 1", "family hermite 3"}},
		{"", []string{"step 0", "step 100"}, []string{"step 1", "step 101", "step 999999999"}},
		{"family catalan 1", nil, []string{"step 0", "step 1", "step 2"}},
		{"", []string{"stretch 1 0", "stretch 100 100"}, []string{"stretch 0 1", "stretch 101 1", "stretch 1 101"}},
		{"", []string{"back 1", "back 8"}, []string{"back 0", "back 9", "back 999999999"}},
		{"family catalan 12", []string{"back 24"}, []string{"back 25"}},
		{"", []string{"roots" + many("100", 24), "roots"}, []string{"roots" + many("1", 25), "roots 101", "roots 1 101 1"}},
		{"", []string{"orthogonal 0", "orthogonal 4"}, []string{"orthogonal 5", "orthogonal 12", "orthogonal 13"}},
		{"named catalan 24", []string{"orthogonal 12"}, []string{"orthogonal 13"}},
		{"", []string{"hankel 0", "hankel 4"}, []string{"hankel 5", "hankel 999999999"}},
		{"named catalan 23", []string{"hankel 12"}, []string{"hankel 13"}},
		{"", []string{"kernel 0 0 0", "kernel 3 100 100"}, []string{"kernel 4 0 0", "kernel 0 101 0", "kernel 0 0 101", "kernel 12 0 0"}},
		{"named catalan 23", []string{"kernel 11 1 1"}, []string{"kernel 12 1 1"}},
		{"", []string{"linear 0 0", "linear 4 0", "linear 0 4", "linear 2 2"}, []string{"linear 5 0", "linear 0 5", "linear 2 3", "linear 3 2", "linear 999999999 999999999"}},
		{"poly 1,0,0,0,0", []string{"expand"}, nil},
		{"poly 1,0,0,0,0,0", nil, []string{"expand"}},
		{"", []string{"sums 0", "sums 24"}, []string{"sums 25", "sums 999999999"}},
		{"poly 0", []string{"expand", "apply", "product", "look"}, []string{"simple", "zeros", "splits", "discriminant", "sums 0", "sums 1"}},
		{"poly 5", []string{"expand", "apply", "product", "simple", "zeros", "splits", "sums 1"}, []string{"discriminant"}},
		{"moments 0", []string{"order", "norms", "hankel 1", "show"}, []string{"kernel 0 0 0", "orthogonal 1", "jacobi 1"}},
	}
	for _, x := range cases {
		d, ok := impl.DeskAfter(strings.ReplaceAll(x.before, "|", "\n"))
		if !ok {
			t.Errorf("DeskAfter %q is refused", x.before)
		}
		for _, line := range x.right {
			isRight(t, d, line)
		}
		for _, line := range x.wrong {
			isWrong(t, d, line)
		}
	}
}

// TestAnyLines checks lines of pieces put together at random against the table.
func TestAnyLines(t *testing.T) {
	d := &dice{404}
	pieces := []string{" ", " ", " ", " ", " ", "", "0", "1", "2", "7", "24", "100", "101", "-", "+", ",", "\n", "\t", "\xff", "hermite", "uniform", "é"}
	for _, r := range consoleRows {
		pieces = append(pieces, r.name)
	}
	for range 3000 {
		line := consoleRows[d.below(int64(len(consoleRows)))].name
		for range d.below(7) {
			line += pieces[d.below(int64(len(pieces)))]
		}
		runs(t, ready(), line)
		runs(t, newDeskOf(7), line)
	}
}
