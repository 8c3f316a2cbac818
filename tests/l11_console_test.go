package tests

import (
	"fmt"
	"slices"
	"strings"
	"testing"

	"loop.example/g01283/impl"
)

// agrees checks that a desk and an output are those that are wanted.
func agrees(t *testing.T, name string, r, want result) {
	t.Helper()
	if !r.equals(want) {
		t.Errorf("%s = %v, want %v", name, r, want)
	}
}

func TestNewDesk(t *testing.T) {
	want := desk(of(101, 1, 1, 2, 5, 14, 42, 31, 25), data(101, []int64{1, 2, 2, 2}, []int64{1, 1, 1, 1}), 0, 1)
	d := impl.NewDesk()
	agrees(t, "NewDesk", deskResult(d, ""), deskResult(want, ""))
	agrees(t, "the new desk by the definitions", deskResult(newDeskOf(101), ""), deskResult(want, ""))
	if !impl.IsDesk(d) {
		t.Errorf("the new desk is none")
	}
}

func TestIsDesk(t *testing.T) {
	d := &dice{401}
	for _, p := range somePrimes {
		for _, x := range someDesks(d, p) {
			if !impl.IsDesk(x) {
				t.Errorf("IsDesk %v = false", x)
			}
		}
		greatest := slices.Repeat([]int64{p - 1}, 25)
		if x := desk(of(p, greatest[:24]...), data(p, greatest[:12], greatest[:12]), greatest...); !impl.IsDesk(x) {
			t.Errorf("IsDesk %v = false", x)
		}
		if x := desk(of(p, 0), data(p, []int64{0}, []int64{1}), []int64{}...); !impl.IsDesk(x) {
			t.Errorf("IsDesk %v = false", x)
		}
	}
	for _, x := range badDesks() {
		if impl.IsDesk(x) {
			t.Errorf("IsDesk %.300s = true", fmt.Sprint(x))
		}
	}
}

// ordinaryTexts are texts with their outputs, from which the tests learn what a line is to do on its own,
// not from the other functions of the package.
var ordinaryTexts = []struct{ text, outputs string }{
	{"show", "1 1 2 5 14 42 31 25"},
	{"data", "1 2 2 2 ; 1 1 1 1"},
	{"look", "1,0"},
	{"order", "4"},
	{"apply", "1"},
	{"norms", "1 1 1 1"},
	{"expand", "1 1"},
	{"zeros", "0"},
	{"splits", "yes"},
	{"discriminant", "1"},
	{"prime 7|show|data|look", "7|1 1 2 5 0 0 6 2|1 2 2 2 ; 1 1 1 1|1,0"},
	{"prime 2|show|data|look", "2|1 1 0 1 0 0 0 1|1 0 0 0 ; 1 1 1 1|1,0"},
	{"prime 3|show|data|look", "3|1 1 2 2 2 0 0 0|1 2 2 2 ; 1 1 1 1|1,0"},
	{"prime 10007|show|data|look", "10007|1 1 2 5 14 42 132 429|1 2 2 2 ; 1 1 1 1|1,0"},
	{"moments 3|family hermite 2|poly 5|prime 101|show|data|look", "3|0 0 ; 1 1|5|101|1 1 2 5 14 42 31 25|1 2 2 2 ; 1 1 1 1|1,0"},
	{"moments 3 0 100|show|data|look", "3 0 100|3 0 100|1 2 2 2 ; 1 1 1 1|1,0"},
	{"moments 0|show|order|norms", "0|0|0|none"},
	{"prime 7|moments 6 0", "7|6 0"},
	{"named uniform 3|show|data|look", "1 51 34|1 51 34|1 2 2 2 ; 1 1 1 1|1,0"},
	{"named laguerre 5", "1 1 2 6 24"},
	{"named hermite 7", "1 0 1 0 3 0 15"},
	{"named catalan 1", "1"},
	{"named poisson 6", "1 1 2 5 15 52"},
	{"prime 5|named laguerre 5", "5|1 1 2 1 4"},
	{"moments 1 1 2|affine 2 3|show|look", "1 1 2|1 5 29|1 5 29|1,0"},
	{"moments 1 1 2|affine 0 3", "1 1 2|1 3 9"},
	{"moments 1 1 2 5|times 2|show|data", "1 1 2 5|100 0 1|100 0 1|1 2 2 2 ; 1 1 1 1"},
	{"moments 1 1 2 5|mass 3 2|show|data", "1 1 2 5|3 7 20 59|3 7 20 59|1 2 2 2 ; 1 1 1 1"},
	{"moments 100 0 1|divide 2 1|show|data", "100 0 1|1 1 2 5|1 1 2 5|1 2 2 2 ; 1 1 1 1"},
	{"moments 1 2|double|show|halve|show|look", "1 2|1 0 2|1 0 2|1 2|1 2|1,0"},
	{"moments 7 0 4 0|halve", "7 0 4 0|7 4"},
	{"product|show|product|look", "1 2 5 14 42 31 25|1 2 5 14 42 31 25|2 5 14 42 31 25|1,0"},
	{"moments 1 1 2 5|poly 1,100|product", "1 1 2 5|1,100|0 1 3"},
	{"moments 1 1 2 5|poly 0|product", "1 1 2 5|0|0 0 0 0"},
	{"moments 1 1 2 5|jacobi 2|data|show|look", "1 1 2 5|1 2 ; 1 1|1 2 ; 1 1|1 1 2 5|1,0"},
	{"jacobi 1", "1 ; 1"},
	{"family hermite 3|data|show|look", "0 0 0 ; 1 1 2|0 0 0 ; 1 1 2|1 1 2 5 14 42 31 25|1,0"},
	{"family laguerre 3", "1 3 5 ; 1 1 4"},
	{"family poisson 3", "1 2 3 ; 1 1 2"},
	{"family catalan 1", "1 ; 1"},
	{"family second 2", "0 0 ; 1 76"},
	{"family legendre 2", "0 0 ; 2 34"},
	{"prime 7|family legendre 3", "7|0 0 0 ; 2 5 4"},
	{"jacobi 2|step 2|data|show", "1 2 ; 1 1|0 ; 100|0 ; 100|1 1 2 5 14 42 31 25"},
	{"jacobi 2|stretch 2 3|data|show", "1 2 ; 1 1|5 7 ; 1 4|5 7 ; 1 4|1 1 2 5 14 42 31 25"},
	{"back 4|show|data|look", "1 1 2 5|1 1 2 5|1 2 2 2 ; 1 1 1 1|1,0"},
	{"family hermite 2|back 4", "0 0 ; 1 1|1 0 1 0"},
	{"poly 3,0,100|look|show|data", "3,0,100|3,0,100|1 1 2 5 14 42 31 25|1 2 2 2 ; 1 1 1 1"},
	{"poly 0|look|expand|apply", "0|0|none|0"},
	{"roots 3 5|look|show|data", "1,93,15|1,93,15|1 1 2 5 14 42 31 25|1 2 2 2 ; 1 1 1 1"},
	{"roots|look|zeros|splits|sums 2", "1|1|none|yes|0 0 0"},
	{"roots 5 3 3|zeros|splits|discriminant|simple|look|discriminant", "1,90,39,56|3 5|yes|0|1,93,15|1,93,15|4"},
	{"orthogonal 2|look|show|data", "1,98,1|1,98,1|1 1 2 5 14 42 31 25|1 2 2 2 ; 1 1 1 1"},
	{"orthogonal 0", "1"},
	{"poly 1,99,1|simple|look", "1,99,1|1,100|1,100"},
	{"hankel 0|hankel 1|hankel 4", "1|1|1"},
	{"moments 1 1 3|hankel 2|order|norms", "1 1 3|2|2|1 2"},
	{"moments 2 3 0|hankel 1|hankel 2|order", "2 3 0|2|92|2"},
	{"poly 3,0,100|apply", "3,0,100|5"},
	{"kernel 0 5 7|kernel 1 2 3|kernel 1 3 2", "1|3|3"},
	{"poly 1,2,3|expand", "1,2,3|7 5 1"},
	{"linear 1 1|linear 1 2|linear 2 1|linear 0 0", "1 1 1|0 1 1 1|0 1 1 1|1"},
	{"family hermite 3|linear 1 2", "0 0 0 ; 1 1 2|0 2 0 1"},
	{"prime 7|roots 4 3|zeros|poly 1,0,1|zeros|splits", "7|1,0,5|3 4|1,0,1|none|no"},
	{"prime 7|poly 1,0,1|discriminant", "7|1,0,1|3"},
	{"roots 3 5|sums 2|sums 0", "1,93,15|2 8 34|2"},
	{"prime 7|moments 3|family hermite 2|poly 5|reset|show|data|look", "7|3|0 0 ; 1 1|5|ok|1 1 2 5 14 42 31 25|1 2 2 2 ; 1 1 1 1|1,0"},
	{"moments 101|show|poly 1,0,101|look|named hermit 3|show|fly", "error|1 1 2 5 14 42 31 25|error|1,0|error|1 1 2 5 14 42 31 25|error"},
}

func TestOrdinaryTexts(t *testing.T) {
	seen := map[string]bool{}
	for _, x := range ordinaryTexts {
		d := impl.NewDesk()
		outputs := strings.Split(x.outputs, "|")
		for i, line := range strings.Split(x.text, "|") {
			next, output := impl.RunLine(d, line)
			if output != outputs[i] {
				t.Errorf("RunLine %q of %q = %q, want %q", line, x.text, output, outputs[i])
			}
			if output != "error" {
				seen[strings.Fields(line)[0]] = true
			}
			d = next
		}
		text := strings.ReplaceAll(x.text, "|", "\n")
		if output := impl.Console(text); output != strings.ReplaceAll(x.outputs, "|", "\n")+"\n" {
			t.Errorf("Console %q = %q", text, output)
		}
	}
	for _, r := range consoleRows {
		if !seen[r.name] {
			t.Errorf("no text has the line %s", r.name)
		}
	}
}

// runs executes a line, and checks that the desk and the output are those of the table, that what follows
// is a desk, and that it is the same one beside error. It returns the desk, and whether the line is right.
func runs(t *testing.T, d impl.Desk, line string) (impl.Desk, bool) {
	t.Helper()
	name := fmt.Sprintf("RunLine %v of %.300q", d, line)
	next, output := impl.RunLine(d, line)
	agrees(t, name, deskResult(next, output), deskResult(slowLine(d, line)))
	if !impl.IsDesk(next) {
		t.Errorf("%s: no desk", name)
	}
	if output == "error" {
		agrees(t, name, deskResult(next, ""), deskResult(d, ""))
	}
	return next, output != "error"
}

// TestLinesOnDesks checks lines of all rows on desks of all kinds.
func TestLinesOnDesks(t *testing.T) {
	d := &dice{402}
	right, wrong := map[string]int{}, map[string]int{}
	for _, p := range somePrimes {
		for _, x := range someDesks(d, p) {
			for _, r := range consoleRows {
				for _, line := range []string{r.ordinary, d.line(r, p)} {
					if _, ok := runs(t, x, line); ok {
						right[r.name]++
					} else {
						wrong[r.name]++
					}
				}
			}
		}
	}
	never := []string{"show", "data", "look", "order", "norms", "reset"}
	for _, r := range consoleRows {
		if right[r.name] < 30 || slices.Contains(never, r.name) != (wrong[r.name] == 0) {
			t.Errorf("%s is right %d times, and wrong %d times", r.name, right[r.name], wrong[r.name])
		}
	}
}

// TestTextsOfLines checks promise 11: lines one after the other lead from desks to desks, and the console
// joins their outputs.
func TestTextsOfLines(t *testing.T) {
	d := &dice{403}
	for range 300 {
		p := int64(101)
		x := impl.NewDesk()
		text, outputs := "", ""
		for range d.below(41) {
			line := d.line(consoleRows[d.below(int64(len(consoleRows)))], p)
			if d.below(12) == 0 {
				line = ""
			}
			if len(text)+len(line)+1 > impl.MaxConsole {
				break
			}
			text += line + "\n"
			if line == "" {
				continue
			}
			_, output := impl.RunLine(x, line)
			outputs += output + "\n"
			x, _ = runs(t, x, line)
			p = x.Moments.Prime
		}
		checkText(t, text, x, outputs)
	}
}

// checkText checks what a text leads to, with and without its last newline.
func checkText(t *testing.T, text string, d impl.Desk, outputs string) {
	t.Helper()
	slowDesk, slowOutputs := slowText(text)
	agrees(t, fmt.Sprintf("the lines of %q", text), deskResult(d, outputs), deskResult(slowDesk, slowOutputs))
	for _, whole := range []string{text, strings.TrimSuffix(text, "\n")} {
		after, ok := impl.DeskAfter(whole)
		if !ok {
			t.Errorf("DeskAfter %q is refused", whole)
		}
		agrees(t, fmt.Sprintf("Console and DeskAfter %q", whole), deskResult(after, impl.Console(whole)), deskResult(d, outputs))
	}
}

func TestConsole(t *testing.T) {
	cases := []struct{ text, outputs string }{
		{"", ""},
		{"\n", ""},
		{"\n\n\n", ""},
		{"order", "4\n"},
		{"order\n", "4\n"},
		{"\norder\n\n\nlook", "4\n1,0\n"},
		{"order\nlook\n\n", "4\n1,0\n"},
		{"fly", "error\n"},
		{" ", "error\n"},
		{"\n \n", "error\n"},
		{"order\r\nlook\r\n", "error\nerror\n"},
		{"order \nlook", "error\n1,0\n"},
		{"poly 1,2\n poly 1,3\nlook", "1,2\nerror\n1,2\n"},
		{"\x00\n\xff\nlook", "error\nerror\n1,0\n"},
	}
	for _, x := range cases {
		if output := impl.Console(x.text); output != x.outputs {
			t.Errorf("Console %q = %q, want %q", x.text, output, x.outputs)
		}
		d, ok := impl.DeskAfter(x.text)
		want, _ := slowText(x.text)
		agrees(t, fmt.Sprintf("DeskAfter %q", x.text), deskResult(d, ""), deskResult(want, ""))
		if !ok {
			t.Errorf("DeskAfter %q is refused", x.text)
		}
	}
	// No call keeps a desk for the next one.
	impl.Console("prime 7\nmoments 3\nroots 1 2")
	impl.DeskAfter("prime 7\nmoments 3\nroots 1 2")
	impl.RunLine(impl.NewDesk(), "prime 7")
	if output := impl.Console("show\nlook"); output != "1 1 2 5 14 42 31 25\n1,0\n" {
		t.Errorf("Console behind other calls = %q", output)
	}
}

// TestLimitsOfTexts checks that texts at the limits are accepted, and those that exceed one are not.
func TestLimitsOfTexts(t *testing.T) {
	lines := func(n int, line string) string { return strings.Repeat(line+"\n", n) }
	accepted := map[string]string{
		lines(40, "order"):                           lines(40, "4"),
		lines(39, "order") + "look":                  lines(39, "4") + "1,0\n",
		lines(40, ""):                                "",
		lines(39, "") + "order":                      "4\n",
		lines(39, "") + "order\n":                    "4\n",
		"order\n" + strings.Repeat("x", 3994):        "4\nerror\n",
		"order\n" + strings.Repeat("x", 3993) + "\n": "4\nerror\n",
		strings.Repeat("é", 2000):                    "error\n",
		lines(39, strings.Repeat("0", 99)) + "roots 1 " + lines(1, strings.Repeat("2", 91)): lines(40, "error"),
	}
	for text, outputs := range accepted {
		if output := impl.Console(text); output != outputs {
			t.Errorf("Console %q = %q, want %q", text, output, outputs)
		}
		d, ok := impl.DeskAfter(text)
		agrees(t, fmt.Sprintf("DeskAfter %q", text), deskResult(d, ""), deskResult(newDeskOf(101), ""))
		if !ok {
			t.Errorf("DeskAfter %q is refused", text)
		}
	}
	refused := []string{
		lines(41, "order"), lines(40, "order") + "look", lines(41, ""), lines(40, "") + "order", lines(40, "") + " ", "prime 7\n" + lines(40, ""),
		lines(3900, ""), "order\n" + strings.Repeat("x", 3995), "order\n" + strings.Repeat("x", 3994) + "\n", strings.Repeat("é", 2000) + "\n",
		strings.Repeat("x", 4001), strings.Repeat(" ", 4001), lines(10000000, "x"), "prime 7\n" + strings.Repeat("look\n", 800),
	}
	for _, text := range refused {
		if output := impl.Console(text); output != "" {
			t.Errorf("Console %.300q = %q", text, output)
		}
		d, ok := impl.DeskAfter(text)
		if ok {
			t.Errorf("DeskAfter %.300q is not refused", text)
		}
		agrees(t, fmt.Sprintf("DeskAfter %.300q", text), deskResult(d, ""), result{lists: make([][]int64, 5)})
	}
}
