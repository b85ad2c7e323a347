// Package span is layer 9: time spans. See shared/doc/09-span.md.
package span

import (
	"cmp"
	"slices"

	"langdoc/api"
)

// The relations of spans; the relation before + after - r is the inverse of r.
const (
	before = iota + 1
	meets
	overlaps
	starts
	during
	finishes
	equal
	finishedBy
	contains
	startedBy
	overlappedBy
	metBy
	after
)

// Right is specified in P9.1.
func Right(s api.Span) bool {
	return s.From >= 0 && s.From < s.To && s.To <= api.MaxMs
}

// Relation is specified in P9.1.
func Relation(a, b api.Span) int {
	if !Right(a) || !Right(b) {
		return 0
	}
	if r := direct(a, b); r != 0 {
		return r
	}
	return Flip(direct(b, a))
}

// Flip is specified in P9.1.
func Flip(r int) int {
	if r < before || r > after {
		return 0
	}
	return before + after - r
}

// Union is specified in P9.2.
func Union(l []api.Span) []api.Span {
	var sorted []api.Span
	for _, s := range l {
		if Right(s) {
			sorted = append(sorted, s)
		}
	}
	slices.SortFunc(sorted, func(s, t api.Span) int { return cmp.Compare(s.From, t.From) })
	var out []api.Span
	for _, s := range sorted {
		if last := len(out) - 1; last >= 0 && s.From <= out[last].To {
			out[last].To = max(out[last].To, s.To)
		} else {
			out = append(out, s)
		}
	}
	return out
}

// Both is specified in P9.2.
func Both(a, b []api.Span) []api.Span {
	a, b = Union(a), Union(b)
	var out []api.Span
	for len(a) > 0 && len(b) > 0 {
		s := api.Span{From: max(a[0].From, b[0].From), To: min(a[0].To, b[0].To)}
		if Right(s) {
			out = append(out, s)
		}
		// What ends first has no more times in common with the other list.
		if a[0].To < b[0].To {
			a = a[1:]
		} else {
			b = b[1:]
		}
	}
	return out
}

// Minus is specified in P9.2.
func Minus(a, b []api.Span) []api.Span {
	return Both(a, gaps(b))
}

// Covers is specified in P9.3.
func Covers(l []api.Span, s api.Span) bool {
	if !Right(s) {
		return false
	}
	// The spans of a normal list do not touch, so that one of them has all the times of s.
	return slices.ContainsFunc(Union(l), func(u api.Span) bool { return u.From <= s.From && s.To <= u.To })
}

// Total is specified in P9.3.
func Total(l []api.Span) int {
	total := 0
	for _, s := range Union(l) {
		total += s.To - s.From
	}
	return total
}

// direct returns the relation of two right spans if it is one of the first seven, and 0 otherwise.
func direct(a, b api.Span) int {
	switch {
	case a == b:
		return equal
	case a.To < b.From:
		return before
	case a.To == b.From:
		return meets
	case a.From < b.From && b.From < a.To && a.To < b.To:
		return overlaps
	case a.From == b.From && a.To < b.To:
		return starts
	case a.From > b.From && a.To < b.To:
		return during
	case a.From > b.From && a.To == b.To:
		return finishes
	}
	return 0
}

// gaps returns spans with the times that a list does not have; spans between them that are not right have no times.
func gaps(l []api.Span) []api.Span {
	var out []api.Span
	from := 0
	for _, s := range Union(l) {
		out = append(out, api.Span{From: from, To: s.From})
		from = s.To
	}
	return append(out, api.Span{From: from, To: api.MaxMs})
}
