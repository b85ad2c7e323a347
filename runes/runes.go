// Package runes is layer 2: Unicode scalars and combining marks. See shared/doc/02-runes.md.
package runes

import (
	"cmp"
	"iter"
	"slices"
	"unicode/utf8"
)

// The classes of marks.
const (
	classAttached = 202
	classBelow    = 220
	classAbove    = 230
)

// Points is specified in P2.1.
func Points(s string) ([]int, bool) {
	if !utf8.ValidString(s) {
		return nil, false
	}
	var points []int
	for _, p := range scalars(s) {
		points = append(points, p)
	}
	return points, true
}

// Of is specified in P2.1.
func Of(points []int) (string, bool) {
	var b []byte
	for _, p := range points {
		if !isScalar(p) {
			return "", false
		}
		b = utf8.AppendRune(b, rune(p))
	}
	return string(b), true
}

// Class is specified in P2.2.
func Class(p int) int {
	switch {
	case p < 0x300 || p > 0x36f:
		return 0
	case p == 0x321 || p == 0x322 || p == 0x327 || p == 0x328:
		return classAttached
	case p >= 0x316 && p <= 0x319 || p >= 0x31c && p <= 0x320:
		return classBelow
	case p >= 0x323 && p <= 0x326 || p >= 0x329 && p <= 0x333:
		return classBelow
	}
	return classAbove
}

// Clusters is specified in P2.3.
func Clusters(s string) []string {
	if !utf8.ValidString(s) {
		return nil
	}
	var clusters []string
	from := 0
	for at, p := range scalars(s) {
		if at > from && !isMark(p) {
			clusters = append(clusters, s[from:at])
			from = at
		}
	}
	if from < len(s) {
		clusters = append(clusters, s[from:])
	}
	return clusters
}

// Order is specified in P2.4.
func Order(s string) string {
	if !utf8.ValidString(s) {
		return s
	}
	var b []byte
	for _, cluster := range Clusters(s) {
		points, _ := Points(cluster)
		// The class of the base is 0, so that it stays before its marks.
		slices.SortStableFunc(points, func(p, q int) int { return cmp.Compare(Class(p), Class(q)) })
		ordered, _ := Of(points)
		b = append(b, ordered...)
	}
	return string(b)
}

// Same is specified in P2.4.
func Same(a, b string) bool {
	return Order(a) == Order(b)
}

// scalars visits the scalars of a valid string, each with the index of its first byte.
func scalars(s string) iter.Seq2[int, int] {
	return func(yield func(int, int) bool) {
		for at, r := range s {
			if !yield(at, int(r)) {
				return
			}
		}
	}
}

func isScalar(p int) bool {
	return p >= 0 && p <= 0x10ffff && (p < 0xd800 || p > 0xdfff)
}

func isMark(p int) bool {
	return Class(p) != 0
}
