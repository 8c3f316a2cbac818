package tests

import (
	"fmt"
	"regexp"
	"slices"
	"strconv"
	"strings"
	"sync"

	"loop.example/g01283/impl"
)

// The table of the console as the document has it, with lines read by regular expressions, to check the
// package against.

// deskResult is a desk with an output. Of the zero value there is nothing in it.
func deskResult(d impl.Desk, output string) result {
	primes := cut([]int64{d.Moments.Prime, d.Jacobi.Prime})
	return result{lists: [][]int64{d.Moments.List, d.Jacobi.Alpha, d.Jacobi.Beta, d.Polynomial, primes}, text: output}
}

func desk(m impl.Moments, j impl.Jacobi, f ...int64) impl.Desk {
	return impl.Desk{Moments: m, Jacobi: j, Polynomial: f}
}

// newDeskOf is the new desk but for the prime, by the definitions.
func newDeskOf(p int64) impl.Desk {
	var list []int64
	for k := range 8 {
		list = append(list, slowNamed("catalan", p, k))
	}
	return desk(of(p, list...), data(p, []int64{1, 2 % p, 2 % p, 2 % p}, []int64{1, 1, 1, 1}), 0, 1)
}

// lineWords is what a line has behind its command.
type lineWords struct {
	name    string
	text    string
	numbers []int64
}

// effect is what a line does: the desk behind it, its output, and a code.
type effect struct {
	desk   impl.Desk
	output string
	code   int64
}

// consoleRow is a command of the table: the words of its lines as the document tells them, an ordinary
// line for the new desk, and what is done.
type consoleRow struct {
	name     string
	form     string
	ordinary string
	does     func(d impl.Desk, x lineWords) effect
}

var consoleRows = []consoleRow{
	{"prime", "K", "prime 7", slowPrime},
	{"moments", "N..", "moments 3 0 100", func(d impl.Desk, x lineWords) effect {
		m := of(d.Moments.Prime, x.numbers...)
		if !impl.AreMoments(m) {
			return effect{code: impl.ErrInvalid}
		}
		return laid(d)(m, impl.ErrNone)
	}},
	{"named", "NAME N", "named uniform 3", func(d impl.Desk, x lineWords) effect {
		return laid(d)(impl.NamedMoments(x.name, d.Moments.Prime, x.numbers[0]))
	}},
	{"affine", "A B", "affine 2 3", func(d impl.Desk, x lineWords) effect {
		return laid(d)(impl.AffineMoments(d.Moments, x.numbers[0], x.numbers[1]))
	}},
	{"times", "C", "times 2", func(d impl.Desk, x lineWords) effect {
		return laid(d)(impl.MultiplyMoments(d.Moments, x.numbers[0]))
	}},
	{"mass", "C W", "mass 3 2", func(d impl.Desk, x lineWords) effect {
		return laid(d)(impl.AddMass(d.Moments, x.numbers[0], x.numbers[1]))
	}},
	{"divide", "C T", "divide 2 1", func(d impl.Desk, x lineWords) effect {
		return laid(d)(impl.DivideMoments(d.Moments, x.numbers[0], x.numbers[1]))
	}},
	{"double", "", "double", func(d impl.Desk, x lineWords) effect { return laid(d)(impl.DoubleMoments(d.Moments)) }},
	{"halve", "", "halve", func(d impl.Desk, x lineWords) effect { return laid(d)(impl.HalveMoments(d.Moments)) }},
	{"product", "", "product", func(d impl.Desk, x lineWords) effect {
		return laid(d)(impl.ProductMoments(d.Moments, d.Polynomial))
	}},
	{"jacobi", "N", "jacobi 2", func(d impl.Desk, x lineWords) effect {
		return laidData(d)(impl.JacobiOfMoments(d.Moments, x.numbers[0]))
	}},
	{"family", "NAME N", "family hermite 3", func(d impl.Desk, x lineWords) effect {
		return laidData(d)(impl.NamedJacobi(x.name, d.Moments.Prime, x.numbers[0]))
	}},
	{"step", "C", "step 3", func(d impl.Desk, x lineWords) effect {
		return laidData(d)(impl.StepOfJacobi(d.Jacobi, x.numbers[0]))
	}},
	{"stretch", "A B", "stretch 2 3", func(d impl.Desk, x lineWords) effect {
		return laidData(d)(impl.AffineJacobi(d.Jacobi, x.numbers[0], x.numbers[1]))
	}},
	{"back", "N", "back 4", func(d impl.Desk, x lineWords) effect {
		return laid(d)(impl.MomentsOfJacobi(d.Jacobi, x.numbers[0]))
	}},
	{"poly", "TEXT", "poly 3,0,100", func(d impl.Desk, x lineWords) effect {
		return laidPoly(d)(impl.ParsePoly(d.Moments.Prime, x.text))
	}},
	{"roots", "N..", "roots 3 5", func(d impl.Desk, x lineWords) effect {
		return laidPoly(d)(impl.PolynomialOfRoots(d.Moments.Prime, x.numbers))
	}},
	{"orthogonal", "K", "orthogonal 2", func(d impl.Desk, x lineWords) effect {
		return laidPoly(d)(impl.OrthogonalPolynomial(d.Moments, x.numbers[0]))
	}},
	{"simple", "", "simple", func(d impl.Desk, x lineWords) effect {
		return laidPoly(d)(impl.SimplePart(d.Moments.Prime, d.Polynomial))
	}},
	{"show", "", "show", func(d impl.Desk, x lineWords) effect { return laid(d)(d.Moments, impl.ErrNone) }},
	{"data", "", "data", func(d impl.Desk, x lineWords) effect { return laidData(d)(d.Jacobi, impl.ErrNone) }},
	{"look", "", "look", func(d impl.Desk, x lineWords) effect { return laidPoly(d)(d.Polynomial, impl.ErrNone) }},
	{"hankel", "K", "hankel 2", func(d impl.Desk, x lineWords) effect {
		return toldNumber(d)(impl.HankelDeterminant(d.Moments, x.numbers[0]))
	}},
	{"order", "", "order", func(d impl.Desk, x lineWords) effect { return toldNumber(d)(impl.OrderOf(d.Moments)) }},
	{"apply", "", "apply", func(d impl.Desk, x lineWords) effect {
		return toldNumber(d)(impl.ApplyFunctional(d.Moments, d.Polynomial))
	}},
	{"norms", "", "norms", func(d impl.Desk, x lineWords) effect { return toldList(d)(impl.NormsOf(d.Moments)) }},
	{"kernel", "K A B", "kernel 1 2 3", func(d impl.Desk, x lineWords) effect {
		return toldNumber(d)(impl.KernelAt(d.Moments, x.numbers[0], x.numbers[1], x.numbers[2]))
	}},
	{"expand", "", "expand", func(d impl.Desk, x lineWords) effect {
		return toldList(d)(impl.ExpandBy(d.Jacobi, d.Polynomial))
	}},
	{"linear", "K L", "linear 1 2", func(d impl.Desk, x lineWords) effect {
		return toldList(d)(impl.ExpandProduct(d.Jacobi, x.numbers[0], x.numbers[1]))
	}},
	{"zeros", "", "zeros", func(d impl.Desk, x lineWords) effect {
		return toldList(d)(impl.RootsIn(d.Moments.Prime, d.Polynomial))
	}},
	{"splits", "", "splits", func(d impl.Desk, x lineWords) effect {
		answer, code := impl.DoesSplit(d.Moments.Prime, d.Polynomial)
		return effect{d, map[bool]string{true: "yes", false: "no"}[answer], code}
	}},
	{"discriminant", "", "discriminant", func(d impl.Desk, x lineWords) effect {
		return toldNumber(d)(impl.DiscriminantOf(d.Moments.Prime, d.Polynomial))
	}},
	{"sums", "N", "sums 3", func(d impl.Desk, x lineWords) effect {
		return toldList(d)(impl.PowerSums(d.Moments.Prime, d.Polynomial, x.numbers[0]))
	}},
	{"reset", "", "reset", func(d impl.Desk, x lineWords) effect { return effect{newDeskOf(101), "ok", impl.ErrNone} }},
}

func slowPrime(d impl.Desk, x lineWords) effect {
	if !impl.IsPrime(x.numbers[0]) {
		return effect{code: impl.ErrRange}
	}
	return effect{newDeskOf(x.numbers[0]), fmt.Sprint(x.numbers[0]), impl.ErrNone}
}

// plain is a list with blanks between its numbers.
func plain(list []int64) string {
	return strings.Trim(fmt.Sprint(list), "[]")
}

// laid lays moments on a desk.
func laid(d impl.Desk) func(m impl.Moments, code int64) effect {
	return func(m impl.Moments, code int64) effect {
		d.Moments = m
		return effect{d, plain(m.List), code}
	}
}

// laidData lays Jacobi data on a desk.
func laidData(d impl.Desk) func(j impl.Jacobi, code int64) effect {
	return func(j impl.Jacobi, code int64) effect {
		d.Jacobi = j
		return effect{d, plain(j.Alpha) + " ; " + plain(j.Beta), code}
	}
}

// laidPoly lays a polynomial on a desk.
func laidPoly(d impl.Desk) func(f []int64, code int64) effect {
	return func(f []int64, code int64) effect {
		d.Polynomial = f
		output := strings.ReplaceAll(plain(reversed(f)), " ", ",")
		if len(f) == 0 {
			output = "0"
		}
		return effect{d, output, code}
	}
}

func toldNumber(d impl.Desk) func(n, code int64) effect {
	return func(n, code int64) effect { return effect{d, fmt.Sprint(n), code} }
}

func toldList(d impl.Desk) func(list []int64, code int64) effect {
	return func(list []int64, code int64) effect {
		if len(list) == 0 {
			return effect{d, "none", code}
		}
		return effect{d, plain(list), code}
	}
}

// linePatterns are what whole lines of the rows look like, by their commands.
var linePatterns = sync.OnceValue(func() map[string]*regexp.Regexp {
	all := map[string]*regexp.Regexp{}
	for _, r := range consoleRows {
		all[r.name] = r.linePattern()
	}
	return all
})

func (r consoleRow) linePattern() *regexp.Regexp {
	const number = `(?:0|[1-9][0-9]{0,8})`
	switch r.form {
	case "TEXT":
		return regexp.MustCompile(`\A` + r.name + `(?s: (.*))\z`)
	case "N..":
		return regexp.MustCompile(`\A` + r.name + `((?: ` + number + `)*)\z`)
	}
	pattern := `\A` + r.name
	for _, word := range strings.Fields(r.form) {
		if word == "NAME" {
			pattern += ` ([^ ]*)`
		} else {
			pattern += ` (` + number + `)`
		}
	}
	return regexp.MustCompile(pattern + `\z`)
}

// readLine returns the words of a line of a row, and false if it is none.
func (r consoleRow) readLine(line string) (lineWords, bool) {
	found := linePatterns()[r.name].FindStringSubmatch(line)
	if found == nil {
		return lineWords{}, false
	}
	words := found[1:]
	var x lineWords
	switch {
	case r.form == "TEXT":
		return lineWords{text: words[0]}, true
	case r.form == "N..":
		words = strings.Fields(words[0])
	case strings.HasPrefix(r.form, "NAME"):
		x.name = words[0]
		words = words[1:]
	}
	for _, word := range words {
		n, _ := strconv.ParseInt(word, 10, 64)
		x.numbers = append(x.numbers, n)
	}
	return x, true
}

// slowLine executes a line on a desk by the table.
func slowLine(d impl.Desk, line string) (impl.Desk, string) {
	for _, r := range consoleRows {
		if x, ok := r.readLine(line); ok {
			if e := r.does(d, x); e.code == impl.ErrNone {
				return e.desk, e.output
			}
		}
	}
	return d, "error"
}

// slowText executes the lines of a text of any length on the new desk, byte by byte.
func slowText(text string) (impl.Desk, string) {
	d, outputs, line := newDeskOf(101), "", ""
	for _, b := range append([]byte(text), 10) {
		if b != 10 {
			line += string([]byte{b})
			continue
		}
		if line != "" {
			next, output := slowLine(d, line)
			d = next
			outputs += output + "\n"
		}
		line = ""
	}
	return d, outputs
}

// desk returns a desk for p with n moments, data of r numbers, and a polynomial of k numbers.
func (d *dice) desk(p int64, n, r, k int) impl.Desk {
	return desk(d.moments(p, n), d.data(p, r), d.poly(p, k)...)
}

// someDesks are for each prime: new ones, those of all sizes at random, and those whose parts belong
// together.
func someDesks(d *dice, p int64) []impl.Desk {
	all := []impl.Desk{newDeskOf(p), desk(of(p, 0), data(p, []int64{0}, []int64{1}))}
	for n := range impl.MaxMoments {
		all = append(all, d.desk(p, n+1, 1+n/2, n+1), d.desk(p, n+1, 1+int(d.below(12)), int(d.below(26))))
	}
	for n := range impl.MaxRows {
		j := d.data(p, n+1)
		m := of(p, slowMomentsOfJacobi(j, 2*n+2)...)
		symmetric := d.symmetric(p, n+1)
		even := of(p, slowMomentsOfJacobi(symmetric, 2*n+1)...)
		all = append(all, desk(m, j, slowPoly(j, n+1)...), desk(even, symmetric, productOfRoots(p, 1, d.list(p, n))...))
	}
	return all
}

// line returns a line of a row with words that are often, but not always, those of a line that is not
// refused for p.
func (d *dice) line(r consoleRow, p int64) string {
	number := func() string {
		ranges := []int64{2, 4, 13, 25, p, p, p, p + 1, 10008, 1000000000}
		return fmt.Sprint(d.below(ranges[d.below(int64(len(ranges)))]))
	}
	words := []string{r.name}
	switch r.form {
	case "TEXT":
		text, _ := impl.PolyText(p, d.poly(p, int(d.below(26))))
		return r.name + " " + text
	case "N..":
		for range d.below(27) {
			words = append(words, fmt.Sprint(d.below(p)))
		}
		return strings.Join(words, " ")
	}
	names := slices.Concat(familyNames, []string{"uniform", "uniform", "chebyshev"})
	for _, word := range strings.Fields(r.form) {
		if word == "NAME" {
			words = append(words, names[d.below(int64(len(names)))])
		} else {
			words = append(words, number())
		}
	}
	return strings.Join(words, " ")
}
