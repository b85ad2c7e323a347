// Package num is layer 1: integers and sets of integers. See shared/doc/01-num.md.
package num

import (
	"slices"
	"strconv"

	"langdoc/api"
)

// limits are the least and the greatest number that Parse reads.
var limits = [2]int{-api.MaxNum, api.MaxNum}

// Clip is specified in P1.1.
func Clip(n, lo, hi int) int {
	// The greater one is taken last, so that lo decides if it is beyond hi.
	return max(lo, min(n, hi))
}

// Text is specified in P1.2.
func Text(n int) string {
	return strconv.Itoa(n)
}

// Parse is specified in P1.2.
func Parse(s string) (int, bool) {
	n, err := strconv.Atoi(s)
	if err != nil || n < limits[0] || n > limits[1] {
		return 0, false
	}
	// Atoi also reads numerals that Text does not write, such as +1 and 007.
	if Text(n) != s {
		return 0, false
	}
	return n, true
}

// Sorted is specified in P1.3.
func Sorted(l []int) []int {
	sorted := slices.Clone(l)
	slices.Sort(sorted)
	return slices.Compact(sorted)
}

// Has is specified in P1.3.
func Has(l []int, n int) bool {
	return slices.Contains(l, n)
}

// Union is specified in P1.4.
func Union(a, b []int) []int {
	return Sorted(slices.Concat(a, b))
}

// Minus is specified in P1.4.
func Minus(a, b []int) []int {
	return filtered(a, b, false)
}

// Both is specified in P1.4.
func Both(a, b []int) []int {
	return filtered(a, b, true)
}

// filtered returns the numbers of a that are in b, or those that are not, increasing.
func filtered(a, b []int, in bool) []int {
	set := Sorted(b)
	var out []int
	for _, n := range Sorted(a) {
		if _, found := slices.BinarySearch(set, n); found == in {
			out = append(out, n)
		}
	}
	return out
}
