package tests

import (
	"slices"
	"strings"
	"sync"

	"loop.example/g01283/impl"
)

// Paths by their definitions, to check those of the package against.

// textsResult has how many texts there are, so that an empty one is seen.
func textsResult(texts []string, code int64) result {
	return result{text: strings.Join(texts, " "), num: int64(len(texts)), code: code}
}

// allTexts returns all texts of n letters D, L and U, for n of at most 8, in the order of texts.
func allTexts(n int) []string {
	return textsUpTo8()[n]
}

var textsUpTo8 = sync.OnceValue(func() [9][]string {
	all := [9][]string{{""}}
	for n := 1; n < len(all); n++ {
		for _, first := range "DLU" {
			for _, rest := range all[n-1] {
				all[n] = append(all[n], string(first)+rest)
			}
		}
	}
	return all
})

// slowHeights returns the heights of a text from i on, and whether none of them is below 0, or above
// top. It counts the letters in front of each one.
func slowHeights(text string, i, top int64) ([]int64, bool) {
	var heights []int64
	for k := range len(text) + 1 {
		up, down := strings.Count(text[:k], "U"), strings.Count(text[:k], "D")
		heights = append(heights, i+int64(up-down))
	}
	return heights, slices.Min(heights) >= 0 && slices.Max(heights) <= top
}

// slowWeight returns the weight of a text from i on, and whether it is a path of the data.
func slowWeight(j impl.Jacobi, text string, i int64) (int64, bool) {
	heights, ok := slowHeights(text, i, int64(len(j.Alpha))-1)
	if !ok {
		return 0, false
	}
	weight := int64(1)
	for k, letter := range []byte(text) {
		switch letter {
		case 'L':
			weight = weight * j.Alpha[heights[k]] % j.Prime
		case 'D':
			weight = weight * j.Beta[heights[k]] % j.Prime
		}
	}
	return weight, true
}

// slowReverse returns the steps in the reverse order, with U and D exchanged.
func slowReverse(text string) string {
	letters := []byte(strings.NewReplacer("U", "D", "D", "U").Replace(text))
	slices.Reverse(letters)
	return string(letters)
}

// found is a path with its last height, and its greatest one.
type found struct {
	text string
	last int64
	top  int64
}

// slowPathsFrom returns all paths of n steps from i, in the order of texts.
func slowPathsFrom(n int, i int64) []found {
	var all []found
	for _, text := range allTexts(n) {
		if heights, ok := slowHeights(text, i, 48); ok {
			all = append(all, found{text, heights[n], slices.Max(heights)})
		}
	}
	return all
}

// among returns the texts of those paths that end at k, with no height above top.
func among(all []found, k, top int64) []string {
	var texts []string
	for _, path := range all {
		if path.last == k && path.top <= top {
			texts = append(texts, path.text)
		}
	}
	return texts
}

// choices are the numbers of ways to choose k of n things, for both of at most 24.
var choices = sync.OnceValue(func() [25][25]int64 {
	var ways [25][25]int64
	for n := range ways {
		ways[n][0] = 1
		for k := 1; k <= n; k++ {
			ways[n][k] = ways[n-1][k-1] + ways[n-1][k]
		}
	}
	return ways
})

// slowSteps24 returns in how many ways n steps up and down, with any heights, lead higher by d.
func slowSteps24(n, d int64) int64 {
	if d > n || -d > n || (n+d)%2 != 0 {
		return 0
	}
	return choices()[n][(n+d)/2]
}

// slowCountLevel counts by reflections: those that leave 0..h are taken off as what leads to an image
// of k behind the heights -1 and h + 1, and these in the same way.
func slowCountLevel(n, i, k, h int64) int64 {
	if i > h || k > h {
		return 0
	}
	count := int64(0)
	for image := int64(-30); image <= 30; image++ {
		period := 2 * (h + 2) * image
		count += slowSteps24(n, k-i+period) - slowSteps24(n, -k-2-i+period)
	}
	return count
}

// slowCount chooses which steps are level.
func slowCount(n, i, k, h int64) int64 {
	count := int64(0)
	for level := range n + 1 {
		count += choices()[n][level] * slowCountLevel(n-level, i, k, h)
	}
	return count
}

// slowTurningSums goes on by pairs of a height and the greatest one so far.
func slowTurningSums(j impl.Jacobi, n int) []int64 {
	r := len(j.Alpha)
	sums := map[[2]int]int64{{0, 0}: 1}
	for range n {
		next := map[[2]int]int64{}
		for at, sum := range sums {
			h, top := at[0], at[1]
			next[[2]int{h, top}] = (next[[2]int{h, top}] + sum*j.Alpha[h]) % j.Prime
			if h > 0 {
				next[[2]int{h - 1, top}] = (next[[2]int{h - 1, top}] + sum*j.Beta[h]) % j.Prime
			}
			if h+1 < r {
				up := [2]int{h + 1, max(top, h+1)}
				next[up] = (next[up] + sum) % j.Prime
			}
		}
		sums = next
	}
	list := make([]int64, r)
	for h := range list {
		list[h] = sums[[2]int{0, h}]
	}
	return list
}

// path returns a path of n steps from i, with heights of at most top.
func (d *dice) path(n int, i, top int64) string {
	var text []byte
	for h := i; len(text) < n; {
		step := d.below(3) - 1
		if h+step >= 0 && h+step <= top {
			h += step
			text = append(text, "DLU"[step+1])
		}
	}
	return string(text)
}

// badPaths are no paths for any data, whatever the height, as a letter is none or there are too many.
func badPaths() []string {
	bad := []string{
		"u", "l", "d", " ", "X", "0", "\n", "\x00", "-", "UX", "XU", "U D", " UD", "UD ", "UD\n", "LLl", "ULDX", "U,D",
		"\xff", "U\xff", "\xffU", "\xc3", "L\xe2\x82", "\ufffd", "U\ufffd", "Ü", "Ｕ", "ＤＬＵ", "U\u0301", "\U0001f600",
		// The last bytes of these numbers of runes are those of U, L and D.
		"\u0155", "\u014c", "\u0144", "\u0155\u014c\u0144", "\U00010055",
		strings.Repeat("Ü", 12), strings.Repeat("Ü", 24), strings.Repeat("\xff", 24), strings.Repeat("L", 23) + "X",
	}
	for _, n := range []int{25, 26, 48, 49, 100, 100000} {
		bad = append(bad, strings.Repeat("L", n), strings.Repeat("U", n), strings.Repeat("D", n), strings.Repeat("UD", n), strings.Repeat("x", n))
	}
	return bad
}
