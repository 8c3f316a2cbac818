package impl

import (
	"slices"
	"strconv"
	"strings"
)

// Error codes of all chapters.
const (
	ErrNone = iota
	ErrInvalid
	ErrRange
	ErrLimit
	ErrNotFound
	ErrState
	ErrSyntax
)

// Limits of chapter 1.
const (
	MaxPrime  = 10007
	MaxDegree = 24
)

const maxExponent = 1000000000

// number is one element of a list. As an array it is compared by == and is a key of maps.
type number [1]int64

// arithmetic holds the sums and products of one kind of elements, so that powers and values are
// computed in the same way for numbers and for polynomials.
type arithmetic[E any] struct {
	constant func(n number) E
	sum      func(x, y E) E
	product  func(x, y E) E
}

// power returns the power k of x, k being at least 0.
func (a arithmetic[E]) power(x E, k int64) E {
	result := a.constant(number{1})
	for ; k > 0; k /= 2 {
		if k%2 == 1 {
			result = a.product(result, x)
		}
		x = a.product(x, x)
	}
	return result
}

// evaluate returns the value of the polynomial f at x, by Horner's rule.
func (a arithmetic[E]) evaluate(f []int64, x E) E {
	value := a.constant(number{})
	for k := len(f) - 1; k >= 0; k-- {
		value = a.sum(a.product(value, x), a.constant(numberAt(f, k)))
	}
	return value
}

func numbersModulo(p int64) arithmetic[number] {
	return arithmetic[number]{
		constant: func(n number) number { return n },
		sum:      func(x, y number) number { return number{(x[0] + y[0]) % p} },
		product:  func(x, y number) number { return number{x[0] * y[0] % p} },
	}
}

func polysModulo(p int64) arithmetic[[]int64] {
	return arithmetic[[]int64]{
		constant: func(n number) []int64 { return trim([]int64{n[0]}) },
		sum:      func(f, g []int64) []int64 { return addMultiple(p, f, g, 1) },
		product:  func(f, g []int64) []int64 { return multiply(p, f, g) },
	}
}

// IsPrime reports whether p is a prime.
func IsPrime(p int64) bool {
	if p < 2 || p > MaxPrime {
		return false
	}
	for d := int64(2); d*d <= p; d++ {
		if p%d == 0 {
			return false
		}
	}
	return true
}

// InverseOf returns the number in 1..p - 1 whose product with x, in 1..p - 1, is 1 modulo p, and
// ErrNone. (ErrInvalid is not returned.)
func InverseOf(p int64, x int64) (int64, int64) {
	if !IsPrime(p) || !isNumber(p, x) || x == 0 {
		return 0, ErrRange
	}
	return inverse(p, x), ErrNone
}

// PowerOf returns the power k of x, in 0..p - 1, modulo p, for k in 0..1000000000 (1 for k = 0),
// and ErrNone. (ErrInvalid is not returned.)
func PowerOf(p int64, x int64, k int64) (int64, int64) {
	if !IsPrime(p) || !isNumber(p, x) || k < 0 || k > maxExponent {
		return 0, ErrRange
	}
	return numbersModulo(p).power(number{x}, k)[0], ErrNone
}

// IsPoly reports whether f is a polynomial for p.
func IsPoly(p int64, f []int64) bool {
	if len(f) > MaxDegree+1 || !areNumbers(p, f) {
		return false
	}
	return len(f) == 0 || !isZero(numberAt(f, len(f)-1))
}

// AddPolys returns f and k times g together, k in 0..p - 1, and ErrNone.
func AddPolys(p int64, f []int64, g []int64, k int64) ([]int64, int64) {
	if code := checkPolys(p, f, g); code != ErrNone {
		return nil, code
	}
	if !isNumber(p, k) {
		return nil, ErrRange
	}
	return addMultiple(p, f, g, k), ErrNone
}

// MultiplyPolys returns the product, and ErrNone.
func MultiplyPolys(p int64, f []int64, g []int64) ([]int64, int64) {
	if code := checkPolys(p, f, g); code != ErrNone {
		return nil, code
	}
	product := multiply(p, f, g)
	if degree(product) > MaxDegree {
		return nil, ErrLimit
	}
	return product, ErrNone
}

// DividePolys returns the quotient and the rest of f and g, and ErrNone. Errors: ErrState if g is
// 0.
func DividePolys(p int64, f []int64, g []int64) ([]int64, []int64, int64) {
	if code := checkPolys(p, f, g); code != ErrNone {
		return nil, nil, code
	}
	if len(g) == 0 {
		return nil, nil, ErrState
	}
	quotient, rest := divide(p, f, g)
	return quotient, rest, ErrNone
}

// PowerPoly returns the power k of f, k in 0..MaxDegree (1 for k = 0), and ErrNone.
func PowerPoly(p int64, f []int64, k int64) ([]int64, int64) {
	if code := checkPolys(p, f); code != ErrNone {
		return nil, code
	}
	if k < 0 || k > MaxDegree {
		return nil, ErrRange
	}
	if degree(f)*k > MaxDegree {
		return nil, ErrLimit
	}
	return polysModulo(p).power(f, k), ErrNone
}

// MonicPoly returns f divided by its last number, and ErrNone. Errors: ErrState if f is 0.
func MonicPoly(p int64, f []int64) ([]int64, int64) {
	if code := checkPolys(p, f); code != ErrNone {
		return nil, code
	}
	if len(f) == 0 {
		return nil, ErrState
	}
	return monic(p, f), ErrNone
}

// DerivativeOf returns the derivative of f, and ErrNone.
func DerivativeOf(p int64, f []int64) ([]int64, int64) {
	if code := checkPolys(p, f); code != ErrNone {
		return nil, code
	}
	var list []int64
	for k := 1; k < len(f); k++ {
		list = append(list, int64(k)*f[k]%p)
	}
	return trim(list), ErrNone
}

// ValueAt returns the value of f at x in 0..p - 1, and ErrNone.
func ValueAt(p int64, f []int64, x int64) (int64, int64) {
	if code := checkPolys(p, f); code != ErrNone {
		return 0, code
	}
	if !isNumber(p, x) {
		return 0, ErrRange
	}
	return evaluateAt(p, f, x), ErrNone
}

// GcdPolys returns the greatest common divisor, and ErrNone.
func GcdPolys(p int64, f []int64, g []int64) ([]int64, int64) {
	if code := checkPolys(p, f, g); code != ErrNone {
		return nil, code
	}
	for len(g) > 0 {
		_, rest := divide(p, f, g)
		f, g = g, rest
	}
	return monic(p, f), ErrNone
}

// ShiftPoly returns the polynomial whose value at x is that of f at x + c, for c in 0..p - 1, and
// ErrNone.
func ShiftPoly(p int64, f []int64, c int64) ([]int64, int64) {
	if code := checkPolys(p, f); code != ErrNone {
		return nil, code
	}
	if !isNumber(p, c) {
		return nil, ErrRange
	}
	return polysModulo(p).evaluate(f, []int64{c, 1}), ErrNone
}

// ComposePolys returns the polynomial whose value at x is that of f at the value of g at x, and
// ErrNone.
func ComposePolys(p int64, f []int64, g []int64) ([]int64, int64) {
	if code := checkPolys(p, f, g); code != ErrNone {
		return nil, code
	}
	if degree(f)*degree(g) > MaxDegree {
		return nil, ErrLimit
	}
	return polysModulo(p).evaluate(f, g), ErrNone
}

// InterpolatePoly returns the polynomial of the least degree with these values at the nodes, lists
// of equally many numbers in 0..p - 1, at most MaxDegree + 1, the nodes being different, and
// ErrNone. (ErrInvalid is not returned.)
func InterpolatePoly(p int64, nodes []int64, values []int64) ([]int64, int64) {
	if !IsPrime(p) || len(nodes) > MaxDegree+1 || len(nodes) != len(values) {
		return nil, ErrRange
	}
	if !areNumbers(p, nodes) || !areNumbers(p, values) || !areDifferent(nodes) {
		return nil, ErrRange
	}
	return interpolate(p, nodes, values), ErrNone
}

// PolyText returns the text of f, and ErrNone.
func PolyText(p int64, f []int64) (string, int64) {
	if code := checkPolys(p, f); code != ErrNone {
		return "", code
	}
	return textOfPoly(f), ErrNone
}

// ParsePoly returns the polynomial with a text, and ErrNone. (ErrInvalid is not returned.) Errors:
// ErrSyntax if there is none.
func ParsePoly(p int64, text string) ([]int64, int64) {
	if !IsPrime(p) {
		return nil, ErrRange
	}
	f, ok := readNumbers(text)
	// The numbers are read leniently (signs, leading zeros): only the text of f itself is accepted.
	if !ok || !IsPoly(p, f) || textOfPoly(f) != text {
		return nil, ErrSyntax
	}
	return f, ErrNone
}

// checkPolys returns the code that all functions of the chapter return first: ErrInvalid comes
// ahead of ErrRange, as a list can be a polynomial for any p.
func checkPolys(p int64, lists ...[]int64) int64 {
	for _, f := range lists {
		if !IsPoly(p, f) {
			return ErrInvalid
		}
	}
	if !IsPrime(p) {
		return ErrRange
	}
	return ErrNone
}

// isNumber reports whether x is in 0..p - 1.
func isNumber(p, x int64) bool {
	return 0 <= x && x < p
}

func areNumbers(p int64, list []int64) bool {
	for _, x := range list {
		if !isNumber(p, x) {
			return false
		}
	}
	return true
}

func areDifferent(list []int64) bool {
	seen := map[number]bool{}
	for k := range list {
		seen[numberAt(list, k)] = true
	}
	return len(seen) == len(list)
}

func numberAt(list []int64, k int) number {
	return number(list[k : k+1])
}

func isZero(n number) bool {
	return n == number{}
}

// degree returns the degree of f, -1 for 0.
func degree(f []int64) int64 {
	return int64(len(f)) - 1
}

// opposite returns -x modulo p, for x in 0..p - 1.
func opposite(p, x int64) int64 {
	return (p - x) % p
}

// linear returns the polynomial x - a.
func linear(p, a int64) []int64 {
	return []int64{opposite(p, a), 1}
}

// inverse returns the power p - 2 of x, which is its inverse by Fermat's theorem.
func inverse(p, x int64) int64 {
	return numbersModulo(p).power(number{x}, p-2)[0]
}

func evaluateAt(p int64, f []int64, x int64) int64 {
	return numbersModulo(p).evaluate(f, number{x})[0]
}

// trim returns the beginning of a list in front of the zeros at its end.
func trim(list []int64) []int64 {
	for len(list) > 0 && isZero(numberAt(list, len(list)-1)) {
		list = list[:len(list)-1]
	}
	return list
}

// addMultiple returns f and k times g together, in new memory.
func addMultiple(p int64, f, g []int64, k int64) []int64 {
	sum := make([]int64, max(len(f), len(g)))
	copy(sum, f)
	for i, b := range g {
		sum[i] = (sum[i] + k*b) % p
	}
	return trim(sum)
}

// multiply returns the product of f and g, of any degree, in new memory. Its last number is not 0,
// as p is a prime.
func multiply(p int64, f, g []int64) []int64 {
	if len(f) == 0 || len(g) == 0 {
		return nil
	}
	product := make([]int64, len(f)+len(g)-1)
	for i, a := range f {
		for k, b := range g {
			product[i+k] = (product[i+k] + a*b) % p
		}
	}
	return product
}

// divide returns the quotient and the rest of f and g, g other than 0, in new memory.
func divide(p int64, f, g []int64) ([]int64, []int64) {
	quotient := make([]int64, max(len(f)-len(g)+1, 0))
	rest := slices.Clone(f)
	last := inverse(p, g[len(g)-1])
steps:
	for len(rest) >= len(g) {
		k := len(rest) - len(g)
		quotient[k] = rest[len(rest)-1] * last % p
		for i, b := range g {
			rest[k+i] = (rest[k+i] + (p-quotient[k])*b) % p
		}
		for len(rest) > 0 {
			if !isZero(numberAt(rest, len(rest)-1)) {
				continue steps
			}
			rest = rest[:len(rest)-1]
		}
	}
	return quotient, rest
}

// monic returns f divided by its last number, in new memory, and 0 for 0.
func monic(p int64, f []int64) []int64 {
	if len(f) == 0 {
		return nil
	}
	return addMultiple(p, nil, f, inverse(p, f[len(f)-1]))
}

// interpolate adds to f, node by node, the multiple of the product of x - a over all nodes a so
// far that gives the value at the next one and keeps those at the earlier ones.
func interpolate(p int64, nodes, values []int64) []int64 {
	f, product := []int64{}, []int64{1}
	for i, x := range nodes {
		missing := (values[i] + p - evaluateAt(p, f, x)) % p
		factor := missing * inverse(p, evaluateAt(p, product, x)) % p
		f = addMultiple(p, f, product, factor)
		product = multiply(p, product, linear(p, x))
	}
	return f
}

func textOfPoly(f []int64) string {
	if len(f) == 0 {
		return "0"
	}
	words := make([]string, 0, len(f))
	for k := len(f) - 1; k >= 0; k-- {
		words = append(words, strconv.FormatInt(f[k], 10))
	}
	return strings.Join(words, ",")
}

// readNumbers returns the numbers of a text, from the last one on, without zeros at the end.
func readNumbers(text string) ([]int64, bool) {
	// A text of any length is refused before it is split.
	if strings.Count(text, ",") > MaxDegree {
		return nil, false
	}
	var list []int64
	for _, word := range strings.Split(text, ",") {
		x, err := strconv.ParseInt(word, 10, 64)
		if err != nil {
			return nil, false
		}
		list = append(list, x)
	}
	slices.Reverse(list)
	return trim(list), true
}
