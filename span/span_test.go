package span_test

import (
	"math"
	"slices"
	"testing"

	"langdoc/api"
	"langdoc/span"
)

func of(from, to int) api.Span { return api.Span{From: from, To: to} }

var wrong = []api.Span{of(0, 0), of(7, 7), of(5, 4), of(-1, 3), of(-5, 50), of(-5, -3), of(0, api.MaxMs+1), of(api.MaxMs, api.MaxMs), of(api.MaxMs, api.MaxMs+1), of(math.MinInt, math.MaxInt), of(0, math.MaxInt), of(math.MaxInt, math.MinInt), of(3, math.MinInt)}

// P9.1
func TestRight(t *testing.T) {
	for _, s := range []api.Span{of(0, 1), of(0, api.MaxMs), of(api.MaxMs-1, api.MaxMs), of(5, 9)} {
		if !span.Right(s) {
			t.Errorf("Right(%v) is false", s)
		}
	}
	for _, s := range wrong {
		if span.Right(s) {
			t.Errorf("Right(%v) is true", s)
		}
	}
}

// P9.1
func TestRelation(t *testing.T) {
	a := of(10, 20)
	for _, c := range []struct {
		b api.Span
		r int
	}{
		{of(21, 30), 1}, {of(25, 30), 1}, {of(20, 30), 2}, {of(15, 30), 3}, {of(19, 21), 3}, {of(10, 30), 4}, {of(10, 21), 4}, {of(5, 30), 5}, {of(9, 21), 5}, {of(5, 20), 6}, {of(10, 20), 7},
		{of(15, 20), 8}, {of(12, 18), 9}, {of(11, 19), 9}, {of(10, 15), 10}, {of(5, 15), 11}, {of(9, 11), 11}, {of(5, 10), 12}, {of(5, 9), 13}, {of(1, 2), 13},
	} {
		if got := span.Relation(a, c.b); got != c.r {
			t.Errorf("Relation(%v, %v) = %d, want %d", a, c.b, got, c.r)
		}
		if got := span.Relation(c.b, a); got != 14-c.r {
			t.Errorf("Relation(%v, %v) = %d, want %d", c.b, a, got, 14-c.r)
		}
	}
	for _, s := range wrong {
		if span.Relation(a, s) != 0 || span.Relation(s, a) != 0 || span.Relation(s, s) != 0 {
			t.Errorf("a relation with %v", s)
		}
	}
	if span.Relation(of(0, api.MaxMs), of(0, api.MaxMs)) != 7 || span.Relation(of(0, 1), of(api.MaxMs-1, api.MaxMs)) != 1 {
		t.Error("relations at the limits")
	}
}

// holds returns the relations that hold of two right spans, from their definitions.
func holds(a, b api.Span) []int {
	first := func(a, b api.Span) []bool {
		return []bool{
			a.To < b.From, a.To == b.From, a.From < b.From && b.From < a.To && a.To < b.To,
			a.From == b.From && a.To < b.To, a.From > b.From && a.To < b.To, a.To == b.To && a.From > b.From,
		}
	}
	var l []int
	for i, is := range first(a, b) {
		if is {
			l = append(l, i+1)
		}
	}
	if a == b {
		l = append(l, 7)
	}
	for i, is := range first(b, a) {
		if is {
			l = append(l, 13-i)
		}
	}
	return l
}

// P9.1, P9.4: all pairs of short spans.
func TestOneRelation(t *testing.T) {
	var all []api.Span
	for from := range 7 {
		for to := from + 1; to <= 7; to++ {
			all = append(all, of(from, to))
		}
	}
	found := map[int]bool{}
	for _, a := range all {
		for _, b := range all {
			r := span.Relation(a, b)
			found[r] = true
			if l := holds(a, b); len(l) != 1 || l[0] != r || span.Relation(b, a) != span.Flip(r) {
				t.Errorf("Relation(%v, %v) = %d, but %v hold", a, b, r, l)
			}
		}
	}
	if len(found) != 13 {
		t.Errorf("%d relations", len(found))
	}
}

// P9.1
func TestFlip(t *testing.T) {
	for r := -20; r <= 40; r++ {
		want := 0
		if r >= 1 && r <= 13 {
			want = 14 - r
		}
		if got := span.Flip(r); got != want {
			t.Errorf("Flip(%d) = %d", r, got)
		}
	}
	if span.Flip(math.MinInt) != 0 || span.Flip(math.MaxInt) != 0 {
		t.Error("Flip of extremes")
	}
}

// P9.2
func TestSets(t *testing.T) {
	a := []api.Span{of(5, 9), of(0, 5), of(20, 21), of(7, 7), of(-5, 50)}
	b := []api.Span{of(3, 4), of(8, 30)}
	for i, c := range []struct{ got, want []api.Span }{
		{span.Union(a), []api.Span{of(0, 9), of(20, 21)}},
		{span.Union([]api.Span{of(0, 9), of(2, 3), of(9, 10), of(11, 12)}), []api.Span{of(0, 10), of(11, 12)}},
		{span.Union([]api.Span{of(4, 5), of(4, 9), of(4, 6)}), []api.Span{of(4, 9)}},
		{span.Union(nil), nil},
		{span.Union([]api.Span{of(7, 7)}), nil},
		{span.Union(wrong), nil},
		{span.Both(a, b), []api.Span{of(3, 4), of(8, 9), of(20, 21)}},
		{span.Both(b, a), []api.Span{of(3, 4), of(8, 9), of(20, 21)}},
		{span.Both([]api.Span{of(0, 9)}, []api.Span{of(1, 3), of(3, 5)}), []api.Span{of(1, 5)}},
		{span.Both([]api.Span{of(0, 5)}, []api.Span{of(5, 9)}), nil},
		{span.Both(a, nil), nil},
		{span.Both(nil, b), nil},
		{span.Both(wrong, wrong), nil},
		{span.Minus(a, b), []api.Span{of(0, 3), of(4, 8)}},
		{span.Minus(b, a), []api.Span{of(9, 20), of(21, 30)}},
		{span.Minus([]api.Span{of(0, 10)}, []api.Span{of(3, 4)}), []api.Span{of(0, 3), of(4, 10)}},
		{span.Minus([]api.Span{of(0, 5), of(5, 10)}, nil), []api.Span{of(0, 10)}},
		{span.Minus([]api.Span{of(0, 5)}, wrong), []api.Span{of(0, 5)}},
		{span.Minus([]api.Span{of(0, 5)}, []api.Span{of(0, 5)}), nil},
		{span.Minus(nil, b), nil},
		{span.Minus([]api.Span{of(0, api.MaxMs)}, []api.Span{of(0, 1), of(api.MaxMs-1, api.MaxMs)}), []api.Span{of(1, api.MaxMs-1)}},
		{span.Minus([]api.Span{of(0, api.MaxMs)}, []api.Span{of(5, 6)}), []api.Span{of(0, 5), of(6, api.MaxMs)}},
		{span.Both([]api.Span{of(0, api.MaxMs)}, []api.Span{of(api.MaxMs-1, api.MaxMs)}), []api.Span{of(api.MaxMs-1, api.MaxMs)}},
	} {
		if !slices.Equal(c.got, c.want) {
			t.Errorf("%d: %v, want %v", i, c.got, c.want)
		}
	}
	if !slices.Equal(a, []api.Span{of(5, 9), of(0, 5), of(20, 21), of(7, 7), of(-5, 50)}) || !slices.Equal(b, []api.Span{of(3, 4), of(8, 30)}) {
		t.Error("the arguments became", a, b)
	}
}

// P9.3
func TestCoversAndTotal(t *testing.T) {
	l := []api.Span{of(5, 9), of(0, 5), of(20, 21), of(7, 7), of(-5, 50)}
	for s, want := range map[api.Span]bool{
		of(3, 8): true, of(0, 9): true, of(0, 1): true, of(8, 9): true, of(20, 21): true,
		of(8, 10): false, of(9, 10): false, of(8, 21): false, of(0, 21): false, of(19, 21): false, of(20, 22): false, of(12, 13): false, of(9, 9): false, of(7, 7): false, of(8, 3): false, of(-1, 3): false, of(-5, 50): false,
	} {
		if got := span.Covers(l, s); got != want {
			t.Errorf("Covers(%v) = %t", s, got)
		}
	}
	for _, s := range wrong {
		if span.Covers([]api.Span{of(0, api.MaxMs)}, s) || span.Covers([]api.Span{s}, of(1, 2)) || span.Covers([]api.Span{s}, s) || span.Total([]api.Span{s}) != 0 {
			t.Errorf("times of %v", s)
		}
	}
	if span.Covers(nil, of(0, 1)) || !span.Covers([]api.Span{of(0, api.MaxMs)}, of(0, api.MaxMs)) {
		t.Error("Covers at the limits")
	}
	if span.Total(l) != 10 || span.Total(nil) != 0 || span.Total([]api.Span{of(0, api.MaxMs), of(5, 9)}) != api.MaxMs || span.Total([]api.Span{of(1, 4), of(1, 4), of(2, 6)}) != 5 {
		t.Error("Total")
	}
}

// times returns a bit for each time of a list of short spans.
func times(l []api.Span) int {
	bits := 0
	for _, s := range l {
		for ms := s.From; ms < s.To && s.From >= 0; ms++ {
			bits |= 1 << ms
		}
	}
	return bits
}

// normal returns the normal list of the times whose bits are set.
func normal(bits int) []api.Span {
	var l []api.Span
	for ms := range 12 {
		if bits>>ms&1 == 0 {
			continue
		}
		if k := len(l) - 1; k >= 0 && l[k].To == ms {
			l[k].To++
		} else {
			l = append(l, of(ms, ms+1))
		}
	}
	return l
}

// lists returns lists of none to three spans, right or not, from a short time.
func lists() [][]api.Span {
	spans := []api.Span{of(0, 2), of(2, 3), of(1, 4), of(5, 8), of(3, 5), of(6, 7), of(9, 9), of(4, 2), of(-1, 6), of(0, 9)}
	all := [][]api.Span{nil}
	for from := 0; len(all[from]) < 3; from++ {
		for _, s := range spans {
			all = append(all, append(slices.Clone(all[from]), s))
		}
	}
	return all
}

// P9.2, P9.3, P9.4, from their definitions.
func TestSetsOfShortSpans(t *testing.T) {
	all := lists()
	for i, a := range all {
		union, ms := span.Union(a), times(a)
		if !slices.Equal(union, normal(ms)) || !slices.Equal(span.Union(union), union) {
			t.Fatalf("Union(%v) = %v", a, union)
		}
		if span.Total(a) != count(ms) {
			t.Fatalf("Total(%v) = %d", a, span.Total(a))
		}
		for from := -1; from <= 9; from++ {
			for to := -1; to <= 10; to++ {
				s := of(from, to)
				want := from >= 0 && from < to && times([]api.Span{s})&^ms == 0
				if got := span.Covers(a, s); got != want {
					t.Fatalf("Covers(%v, %v) = %t", a, s, got)
				}
			}
		}
		// A few of the other lists for each one are enough.
		for j := i % 7; j < len(all); j += 7 {
			checkPair(t, a, all[j])
		}
	}
}

func count(bits int) int {
	n := 0
	for ; bits > 0; bits >>= 1 {
		n += bits & 1
	}
	return n
}

func checkPair(t *testing.T, a, b []api.Span) {
	beforeA, beforeB := slices.Clone(a), slices.Clone(b)
	both, minus := span.Both(a, b), span.Minus(a, b)
	if !slices.Equal(both, normal(times(a)&times(b))) {
		t.Fatalf("Both(%v, %v) = %v", a, b, both)
	}
	if !slices.Equal(minus, normal(times(a)&^times(b))) {
		t.Fatalf("Minus(%v, %v) = %v", a, b, minus)
	}
	if span.Total(a) != span.Total(both)+span.Total(minus) || !slices.Equal(span.Union(a), span.Union(append(slices.Clone(both), minus...))) {
		t.Fatalf("%v and %v are not the parts of %v", both, minus, a)
	}
	if !slices.Equal(a, beforeA) || !slices.Equal(b, beforeB) {
		t.Fatalf("the arguments %v, %v became %v, %v", beforeA, beforeB, a, b)
	}
}
