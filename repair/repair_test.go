package repair_test

import (
	"cmp"
	"math"
	"math/rand"
	"slices"
	"strings"
	"testing"

	"langdoc/api"
	"langdoc/exchange"
	"langdoc/repair"
	"langdoc/replica"
	"langdoc/sample"
	"langdoc/span"
	"langdoc/tieredit"
	"langdoc/tiers"
	"langdoc/tiertype"
)

// timed makes notes with a span, plain those without.
var timed, plain = sample.Timed, sample.Plain

// free returns the tiers of a sample of which Morph and Gloss have no role, so that their notes are not derived.
func free() []api.Tier {
	l := sample.Tiers()
	l[sample.Morph].Role, l[sample.Gloss].Role = api.RoleNone, api.RoleNone
	return l
}

// held returns the cell of each note, in which it has one value for each field.
func held(notes ...api.Note) []api.Cell {
	var l []api.Cell
	for _, n := range notes {
		l = append(l, api.Cell{Rec: 3, Note: n, Text: []api.Value{{Text: n.Text}}, From: []api.Value{{N: n.Span.From}}, To: []api.Value{{N: n.Span.To}}})
	}
	return l
}

// rec is the recording of the tests.
func rec() api.Recording { return sample.Of().Rec }

// result is what Doc makes of notes: those that are placed, and the others.
type result struct {
	notes []api.Note
	loose []api.Loose
}

func loose(why api.Errno, n api.Note) api.Loose { return api.Loose{Note: n, Why: why} }

// base is what the notes of most tests are placed below: a text from 0 to 8 with a word from 1 to 4, and this with a morpheme.
func base() []api.Note {
	return []api.Note{timed(10, sample.Text, 0, 0, 8, "ba mi"), timed(20, sample.Word, 10, 1, 4, "ba"), plain(30, sample.Morph, 20, 0, "b")}
}

func TestExample(t *testing.T) {
	if err := tiertype.Check(free()); err != api.OK {
		t.Error("the tiers of the tests are not right:", err)
	}
	// The example of the chapter.
	a, b := timed(17, 0, 0, 0, 500, "a"), timed(18, 0, 0, 400, 900, "b")
	d, l := repair.Doc(api.Recording{Id: 1, Length: 900}, tiertype.Standard(), held(a, b))
	if !slices.Equal(d.Notes, []api.Note{a}) || !slices.Equal(l, []api.Loose{loose(api.ErrOverlap, b)}) {
		t.Error(d, l)
	}
}

// P52.1: a note that is loose, for the first reason that applies, or is placed.
func TestReasons(t *testing.T) {
	long := strings.Repeat("a", api.MaxText+1)
	for i, c := range []struct {
		n   api.Note
		why api.Errno
	}{
		{timed(50, -1, 0, 8, 9, ""), api.ErrRange}, {timed(50, 11, 0, 8, 9, "\n"), api.ErrRange}, {timed(50, math.MinInt, 10, 5, 4, ""), api.ErrRange}, {plain(5, math.MaxInt, 20, 0, ""), api.ErrRange},
		{timed(50, sample.Part, 10, 0, 8, ""), api.ErrKind}, {timed(50, sample.Bit, 9, 5, 3, "\n"), api.ErrKind}, {timed(50, sample.Sub, 10, 0, 8, ""), api.ErrKind},
		{timed(50, sample.Text, 10, 8, 9, ""), api.ErrParent}, {timed(50, sample.Other, -1, 8, 9, "\n"), api.ErrParent}, {timed(50, sample.Word, 0, 5, 6, "\n"), api.ErrParent}, {timed(50, sample.Word, 11, 9, 8, ""), api.ErrParent}, {timed(50, sample.Word, 20, 2, 3, ""), api.ErrParent}, {plain(50, sample.Free, 20, 0, long), api.ErrParent}, {plain(50, sample.Morph, 10, 0, ""), api.ErrParent}, {plain(50, sample.Morph, 50, 0, ""), api.ErrParent}, {plain(50, sample.Gloss, 20, 0, ""), api.ErrParent}, {plain(50, sample.Deep, 30, 0, ""), api.ErrParent}, {timed(50, sample.Inner, 10, 1, 2, ""), api.ErrParent}, {plain(50, sample.Free, math.MinInt, 0, ""), api.ErrParent},
		{timed(50, sample.Text, 0, 9, 8, "\n"), api.ErrForm}, {timed(50, sample.Text, 0, 8, 9, long), api.ErrLong}, {timed(50, sample.Word, 10, 2, 9, "\x7f"), api.ErrForm}, {plain(50, sample.Free, 10, 0, "\xff"), api.ErrForm}, {plain(50, sample.Morph, 20, -1, long), api.ErrLong}, {timed(50, sample.Text, 0, 8, 9, long[1:]), api.OK},
		{timed(50, sample.Text, 0, 8, 8, ""), api.ErrTime}, {timed(50, sample.Text, 0, 9, 5, ""), api.ErrTime}, {timed(50, sample.Text, 0, -1, 5, ""), api.ErrTime}, {timed(50, sample.Text, 0, 8, 13, ""), api.ErrTime}, {timed(50, sample.Other, 0, 0, 13, ""), api.ErrTime}, {timed(50, sample.Other, 0, math.MinInt, math.MaxInt, ""), api.ErrTime}, {timed(50, sample.Word, 10, 7, 9, ""), api.ErrTime}, {timed(50, sample.Word, 10, 2, 9, ""), api.ErrTime}, {timed(50, sample.Word, 10, 0, 0, ""), api.ErrTime}, {timed(50, sample.Word, 10, 9, 10, ""), api.ErrTime}, {timed(50, sample.Text, 0, 8, 12, ""), api.OK}, {timed(50, sample.Other, 0, 0, 12, ""), api.OK}, {timed(50, sample.Word, 10, 4, 8, ""), api.OK}, {timed(50, sample.Word, 10, 0, 1, ""), api.OK},
		{timed(50, sample.Text, 0, 7, 9, ""), api.ErrOverlap}, {timed(50, sample.Text, 0, 0, 12, ""), api.ErrOverlap}, {timed(50, sample.Text, 0, 3, 4, ""), api.ErrOverlap}, {timed(50, sample.Text, 0, 0, 8, ""), api.ErrOverlap}, {timed(50, sample.Word, 10, 3, 6, ""), api.ErrOverlap}, {timed(50, sample.Word, 10, 0, 2, ""), api.ErrOverlap}, {timed(50, sample.Word, 10, 0, 8, ""), api.ErrOverlap}, {timed(50, sample.Word, 10, 2, 3, ""), api.ErrOverlap}, {timed(5, sample.Word, 10, 3, 6, ""), api.OK}, {timed(5, sample.Text, 0, 8, 9, ""), api.OK},
		{plain(50, sample.Free, 10, 3, "x"), api.OK}, {timed(50, sample.Free, 10, 9, 3, "x"), api.OK}, {timed(50, sample.Gloss, 30, -5, 99, "x"), api.OK}, {timed(50, sample.Morph, 20, 5, 5, ""), api.OK}, {plain(50, sample.Text, 0, 0, ""), api.ErrTime}, {api.Note{Id: 50, Tier: sample.Text, Rank: -7, Span: api.Span{From: 8, To: 9}}, api.OK},
	} {
		// With the lesser Id, a note of a tier is placed before the other ones.
		notes := append(base(), c.n)
		slices.SortFunc(notes, func(a, b api.Note) int { return cmp.Compare(a.Id, b.Id) })
		d, l := repair.Doc(rec(), free(), held(notes...))
		_, placed := tiers.Get(d, c.n.Id)
		at := slices.IndexFunc(l, func(x api.Loose) bool { return x.Note == c.n })
		if placed != (c.why == api.OK) || placed != (at < 0) || !placed && l[at].Why != c.why || tiers.Check(d) != api.OK || len(repair.Lost(held(notes...), d, l)) != 0 {
			t.Errorf("%d: %v, %v, want %d", i, d.Notes, l, c.why)
		}
	}
}

// P52.1: what is derived has no place in the tiers with RoleMorph and RoleGloss; what is below it has no parent.
func TestDerived(t *testing.T) {
	for i, c := range []struct {
		n   api.Note
		why api.Errno
	}{
		{plain(50, sample.Morph, 20, 0, ""), api.ErrKind}, {plain(50, sample.Morph, 99, 0, "\n"), api.ErrKind}, {plain(50, sample.Gloss, 30, 0, ""), api.ErrKind}, {plain(50, sample.Deep, 40, 0, ""), api.ErrParent}, {plain(50, sample.Free, 10, 0, ""), api.OK}, {timed(50, sample.Word, 10, 4, 5, ""), api.OK},
	} {
		notes := append(base(), plain(40, sample.Gloss, 30, 0, "x"), c.n)
		_, l := repair.Doc(rec(), sample.Tiers(), held(notes...))
		at := slices.IndexFunc(l, func(x api.Loose) bool { return x.Note == c.n })
		if (at < 0) != (c.why == api.OK) || at >= 0 && l[at].Why != c.why || !slices.Contains(l, loose(api.ErrKind, notes[2])) || !slices.Contains(l, loose(api.ErrKind, notes[3])) {
			t.Errorf("%d: %v, want %d", i, l, c.why)
		}
	}
}

// P52.1: the order in which notes are placed, and what becomes of their Spans and Ranks.
func TestDoc(t *testing.T) {
	ranked := func(id, parent, rank int) api.Note { return plain(id, sample.Morph, parent, rank, "m") }
	word, other := timed(20, sample.Word, 10, 1, 4, "ba"), timed(21, sample.Word, 10, 4, 8, "mi")
	text := base()[0]
	for i, c := range []struct {
		notes []api.Note
		want  result
	}{
		{nil, result{}}, {[]api.Note{text}, result{notes: []api.Note{text}}},
		// Tier by tier: a parent may have a greater Id. In a tier, the lesser Id comes first.
		{[]api.Note{timed(2, sample.Word, 10, 1, 4, "ba"), text}, result{notes: []api.Note{timed(2, sample.Word, 10, 1, 4, "ba"), text}}}, {[]api.Note{plain(1, sample.Deep, 2, 0, ""), plain(2, sample.Gloss, 3, 0, ""), plain(3, sample.Morph, 4, 0, ""), timed(4, sample.Word, 10, 1, 4, ""), text}, result{notes: []api.Note{plain(1, sample.Deep, 2, 0, ""), plain(2, sample.Gloss, 3, 0, ""), plain(3, sample.Morph, 4, 0, ""), timed(4, sample.Word, 10, 1, 4, ""), text}}},
		{[]api.Note{timed(1, sample.Text, 0, 5, 9, ""), timed(2, sample.Text, 0, 1, 6, ""), timed(3, sample.Text, 0, 0, 5, "")}, result{[]api.Note{timed(1, sample.Text, 0, 5, 9, ""), timed(3, sample.Text, 0, 0, 5, "")}, []api.Loose{loose(api.ErrOverlap, timed(2, sample.Text, 0, 1, 6, ""))}}},
		// What is loose does not stand in the way of others, and is no parent.
		{[]api.Note{timed(1, sample.Text, 0, 0, 99, ""), timed(2, sample.Word, 1, 0, 5, ""), text}, result{[]api.Note{text}, []api.Loose{loose(api.ErrTime, timed(1, sample.Text, 0, 0, 99, "")), loose(api.ErrParent, timed(2, sample.Word, 1, 0, 5, ""))}}}, {[]api.Note{text, timed(11, sample.Text, 0, 8, 9, "\n"), timed(12, sample.Text, 0, 8, 9, "")}, result{[]api.Note{text, timed(12, sample.Text, 0, 8, 9, "")}, []api.Loose{loose(api.ErrForm, timed(11, sample.Text, 0, 8, 9, "\n"))}}},
		// Notes of other tiers, and of other parents, do not stand in the way.
		{[]api.Note{text, timed(11, sample.Other, 0, 2, 9, ""), timed(12, sample.Text, 0, 8, 12, ""), timed(13, sample.Word, 12, 8, 9, ""), word}, result{notes: []api.Note{text, timed(11, sample.Other, 0, 2, 9, ""), timed(12, sample.Text, 0, 8, 12, ""), timed(13, sample.Word, 12, 8, 9, ""), word}}},
		// One label for each parent; the loose one is unchanged.
		{[]api.Note{text, timed(11, sample.Text, 0, 8, 9, ""), timed(12, sample.Free, 10, 1, 2, "a"), plain(13, sample.Free, 10, 4, "b"), plain(14, sample.Free, 11, 4, "c"), word}, result{[]api.Note{text, timed(11, sample.Text, 0, 8, 9, ""), plain(12, sample.Free, 10, 0, "a"), plain(14, sample.Free, 11, 0, "c"), word}, []api.Loose{loose(api.ErrTwice, plain(13, sample.Free, 10, 4, "b"))}}},
		// Ranks in a series count from 0, in the order of the Ranks, then of the Ids; elsewhere they are 0.
		{[]api.Note{text, word, ranked(30, 20, 7), ranked(31, 20, 0), ranked(32, 20, 7), ranked(33, 20, 2), ranked(34, 20, 0)}, result{notes: []api.Note{text, word, ranked(30, 20, 3), ranked(31, 20, 0), ranked(32, 20, 4), ranked(33, 20, 2), ranked(34, 20, 1)}}}, {[]api.Note{text, word, other, ranked(30, 21, 1), ranked(31, 20, 1), ranked(32, 21, 0), ranked(33, 20, -9)}, result{notes: []api.Note{text, word, other, ranked(30, 21, 1), ranked(31, 20, 1), ranked(32, 21, 0), ranked(33, 20, 0)}}}, {[]api.Note{text, word, ranked(30, 20, math.MaxInt), {Id: 31, Tier: sample.Morph, Parent: 20, Span: api.Span{From: 9, To: 1}, Rank: math.MinInt, Text: "m"}}, result{notes: []api.Note{text, word, ranked(30, 20, 1), ranked(31, 20, 0)}}}, {[]api.Note{{Id: 10, Tier: sample.Text, Span: text.Span, Rank: 5, Text: text.Text}, {Id: 20, Tier: sample.Word, Parent: 10, Span: word.Span, Rank: -5, Text: word.Text}}, result{notes: []api.Note{text, word}}},
		// What has no tier comes first among the loose ones, then come the tiers.
		{[]api.Note{plain(1, sample.Free, 9, 0, ""), plain(2, 90, 0, 3, ""), timed(3, sample.Part, 0, 1, 2, ""), plain(4, -1, 7, 0, "\n"), timed(5, sample.Text, 8, 1, 2, ""), plain(6, 11, 0, 0, "")}, result{loose: []api.Loose{loose(api.ErrRange, plain(2, 90, 0, 3, "")), loose(api.ErrRange, plain(4, -1, 7, 0, "\n")), loose(api.ErrRange, plain(6, 11, 0, 0, "")), loose(api.ErrParent, timed(5, sample.Text, 8, 1, 2, "")), loose(api.ErrKind, timed(3, sample.Part, 0, 1, 2, "")), loose(api.ErrParent, plain(1, sample.Free, 9, 0, ""))}}},
	} {
		d, l := repair.Doc(rec(), free(), held(c.notes...))
		if !slices.Equal(l, c.want.loose) || !tiers.Same(d, api.Doc{Rec: rec(), Tiers: free(), Notes: c.want.notes}) {
			t.Errorf("%d: %v, %v", i, d.Notes, l)
		}
		if err := tiers.Check(d); err != api.OK {
			t.Errorf("%d: %v: %d", i, d.Notes, err)
		}
	}
	// Without tiers, all notes are loose; without a length, all that are aligned.
	if d, l := repair.Doc(rec(), nil, held(base()...)); len(d.Notes) != 0 || len(l) != 3 || l[2] != loose(api.ErrRange, base()[2]) || tiers.Check(d) != api.OK {
		t.Error("without tiers:", d, l)
	}
	if d, l := repair.Doc(api.Recording{}, free(), held(base()...)); len(d.Notes) != 0 || len(l) != 3 || l[0].Why != api.ErrTime || l[1].Why != api.ErrParent {
		t.Error("without a length:", d, l)
	}
}

// P52.1: of several values, the last one counts; a field without values is that of the note.
func TestCurrentValues(t *testing.T) {
	c := api.Cell{Note: timed(9, sample.Text, 0, 1, 9, "a"), Text: []api.Value{{Text: "b"}, {Text: "c"}}, From: []api.Value{{N: 8}, {N: 3}}}
	if d, l := repair.Doc(rec(), free(), []api.Cell{c}); len(l) != 0 || !slices.Equal(d.Notes, []api.Note{timed(9, sample.Text, 0, 3, 9, "c")}) {
		t.Error(d, l)
	}
	c.To = []api.Value{{N: 2}}
	if d, l := repair.Doc(rec(), free(), []api.Cell{c}); len(d.Notes) != 0 || !slices.Equal(l, []api.Loose{loose(api.ErrTime, timed(9, sample.Text, 0, 3, 2, "c"))}) {
		t.Error(d, l)
	}
}

// P52.1: the largest documents.
func TestFull(t *testing.T) {
	r := api.Recording{Id: 1, Length: api.MaxMs}
	var notes []api.Note
	for i := range api.MaxNotes + 3 {
		notes = append(notes, timed(i+1, sample.Text, 0, i, i+1, ""))
	}
	d, l := repair.Doc(r, free(), held(notes...))
	want := []api.Loose{loose(api.ErrFull, notes[api.MaxNotes]), loose(api.ErrFull, notes[api.MaxNotes+1]), loose(api.ErrFull, notes[api.MaxNotes+2])}
	if !slices.Equal(d.Notes, notes[:api.MaxNotes]) || !slices.Equal(l, want) || tiers.Check(d) != api.OK {
		t.Error(len(d.Notes), l)
	}
	// Notes that are loose for another reason leave room; ErrRange and ErrKind come before ErrFull, all others behind it.
	notes[5].Parent, notes[7].Span.To = 1, 0
	notes[300].Tier, notes[301].Tier, notes[302].Tier = sample.Part, 99, sample.Deep
	further := []api.Note{timed(400, sample.Other, 0, 1, 2, ""), timed(401, sample.Other, 0, 1, 2, ""), timed(402, sample.Other, 0, 2, 3, ""), timed(403, sample.Other, 1, 1, 2, "\n"), timed(404, sample.Bit, 1, 1, 2, "\n")}
	d, l = repair.Doc(r, free(), held(append(notes, further...)...))
	want = []api.Loose{loose(api.ErrRange, notes[301]), loose(api.ErrParent, notes[5]), loose(api.ErrTime, notes[7]), loose(api.ErrKind, notes[300]), loose(api.ErrParent, notes[302]), loose(api.ErrOverlap, further[1]), loose(api.ErrFull, further[3]), loose(api.ErrKind, further[4])}
	if len(d.Notes) != api.MaxNotes || !slices.Equal(l, want) || tiers.Check(d) != api.OK {
		t.Error(len(d.Notes), l)
	}
}

// P52.2
func TestConflictsAndTexts(t *testing.T) {
	v := func(texts ...string) []api.Value {
		var l []api.Value
		for _, s := range texts {
			l = append(l, api.Value{At: sample.Stamp(len(l)+1, 1), Text: s})
		}
		return l
	}
	one, two := v(""), v("", "")
	cell := func(id int, text, from, to []api.Value) api.Cell {
		return api.Cell{Note: api.Note{Id: id, Text: "n"}, Text: text, From: from, To: to}
	}
	for i, c := range []struct {
		l    []api.Cell
		want []int
	}{
		{nil, nil}, {[]api.Cell{cell(1, one, one, one), cell(2, nil, nil, nil)}, nil}, {[]api.Cell{cell(1, two, one, one), cell(2, one, one, one), cell(3, one, two, one), cell(api.MaxNum, nil, nil, two)}, []int{1, 3, api.MaxNum}}, {[]api.Cell{cell(7, two, two, two)}, []int{7}}, {[]api.Cell{cell(7, v("a", "a"), one, one)}, []int{7}},
	} {
		if got := repair.Conflicts(c.l); !slices.Equal(got, c.want) {
			t.Errorf("%d: Conflicts: %v", i, got)
		}
	}
	for i, c := range []struct{ values, want []string }{
		{nil, nil}, {[]string{"a"}, []string{"a"}}, {[]string{"b", "a"}, []string{"b", "a"}}, {[]string{"b", "a", "b", "c", "a"}, []string{"b", "a", "c"}}, {[]string{"", "a", ""}, []string{"", "a"}}, {[]string{"\n", "\xff"}, []string{"\n", "\xff"}},
	} {
		if got := repair.Texts(cell(1, v(c.values...), two, nil)); !slices.Equal(got, c.want) {
			t.Errorf("%d: Texts: %q", i, got)
		}
	}
}

// P52.3
func TestLost(t *testing.T) {
	cells := held(plain(2, 0, 0, 0, "a"), plain(5, 0, 0, 0, "b"), plain(9, 0, 0, 0, "c"), plain(api.MaxNum, 0, 0, 0, "d"))
	for i, c := range []struct {
		d     []int
		loose []int
		want  []int
	}{
		{nil, nil, []int{2, 5, 9, api.MaxNum}}, {[]int{2, 9}, []int{5, api.MaxNum}, nil}, {[]int{1, 3, 9}, nil, []int{2, 5, api.MaxNum}}, {nil, []int{api.MaxNum, 2}, []int{5, 9}}, {[]int{5}, []int{5, -1}, []int{2, 9, api.MaxNum}},
	} {
		var d api.Doc
		var l []api.Loose
		for _, id := range c.d {
			d.Notes = append(d.Notes, plain(id, 7, 0, 0, "other"))
		}
		for _, id := range c.loose {
			l = append(l, loose(api.ErrTime, plain(id, 7, 0, 0, "other")))
		}
		if got := repair.Lost(cells, d, l); !slices.Equal(got, c.want) || len(repair.Lost(nil, d, l)) != 0 {
			t.Errorf("%d: Lost: %v, want %v", i, got, c.want)
		}
	}
}

// why returns why a note has no place beside those that are placed, from the definition.
func why(d api.Doc, n api.Note) api.Errno {
	if n.Tier < 0 || n.Tier >= len(d.Tiers) {
		return api.ErrRange
	}
	tier := d.Tiers[n.Tier]
	parent, found := tiers.Get(d, n.Parent)
	room := api.Span{To: d.Rec.Length}
	if tier.Kind != api.TierRoot {
		room = parent.Span
	}
	aligned := tiertype.Aligned(d.Tiers, n.Tier)
	overlap, sibling := false, false
	for _, m := range d.Notes {
		if m.Tier == n.Tier && m.Parent == n.Parent {
			sibling = true
			overlap = overlap || len(span.Both([]api.Span{m.Span}, []api.Span{n.Span})) > 0
		}
	}
	switch {
	case tier.Kind == api.TierParts || tier.Role == api.RoleMorph || tier.Role == api.RoleGloss:
		return api.ErrKind
	case len(d.Notes) == api.MaxNotes:
		return api.ErrFull
	case tier.Kind == api.TierRoot && n.Parent != 0 || tier.Kind != api.TierRoot && (!found || parent.Tier != tier.Parent):
		return api.ErrParent
	case tiers.Text(n.Text) != api.OK:
		return tiers.Text(n.Text)
	case aligned && !span.Covers([]api.Span{room}, n.Span):
		return api.ErrTime
	case aligned && overlap:
		return api.ErrOverlap
	case tier.Kind == api.TierLabel && sibling:
		return api.ErrTwice
	}
	return api.OK
}

// placed returns what Doc returns, from the definition.
func placed(list []api.Tier, l []api.Cell) (api.Doc, []api.Loose) {
	d := api.Doc{Rec: rec(), Tiers: list}
	var out []api.Loose
	for tier := -1; tier < len(list); tier++ {
		for _, c := range l {
			n := replica.Current(c)
			if at := n.Tier; at != tier && (tier >= 0 || at >= 0 && at < len(list)) {
				continue
			}
			if err := why(d, n); err != api.OK {
				out = append(out, loose(err, n))
			} else {
				d.Notes = append(d.Notes, n)
			}
		}
	}
	slices.SortFunc(d.Notes, func(a, b api.Note) int { return a.Id - b.Id })
	ranks := map[int]int{}
	for _, n := range d.Notes {
		for _, m := range d.Notes {
			if m.Tier == n.Tier && m.Parent == n.Parent && (m.Rank < n.Rank || m.Rank == n.Rank && m.Id < n.Id) {
				ranks[n.Id]++
			}
		}
	}
	for i, n := range d.Notes {
		d.Notes[i].Rank = 0
		if list[n.Tier].Kind == api.TierSeries {
			d.Notes[i].Rank = ranks[n.Id]
		}
		if !tiertype.Aligned(list, n.Tier) {
			d.Notes[i].Span = api.Span{}
		}
	}
	return d, out
}

// checkNothingLost checks P52.4 of what Doc made of cells.
func checkNothingLost(t *testing.T, l []api.Cell, d api.Doc, out []api.Loose) {
	if err := tiers.Check(d); err != api.OK || len(repair.Lost(l, d, out)) != 0 || len(d.Notes)+len(out) != len(l) {
		t.Fatalf("%v: %v, %v: %d", l, d, out, err)
	}
	for _, x := range out {
		n := x.Note
		if _, found := tiers.Get(d, n.Id); found {
			t.Fatalf("%v is loose and in %v", x, d)
		}
		if n.Rank = 0; !tiertype.Aligned(d.Tiers, n.Tier) {
			n.Span = api.Span{}
		}
		if _, err := tieredit.Add(d, n); err == api.OK && x.Why != api.ErrKind && x.Why != api.ErrFull {
			t.Fatalf("%v can be added to %v", x, d)
		}
	}
	for _, c := range l {
		n, found := tiers.Get(d, c.Note.Id)
		if current := replica.Current(c); found && (n.Tier != c.Note.Tier || n.Parent != c.Note.Parent || n.Text != current.Text) {
			t.Fatalf("%v in %v", c, d)
		}
	}
}

// P52.1 to P52.4: of devices that change notes and meet.
func TestManyDevices(t *testing.T) {
	random := rand.New(rand.NewSource(52))
	count := map[api.Errno]int{}
	for range 400 {
		var devices []api.Replica
		for dev := range 3 {
			r, _ := replica.New(dev + 1)
			devices = append(devices, r)
		}
		for range 70 {
			i, j := random.Intn(3), random.Intn(3)
			if random.Intn(8) == 0 && i != j {
				devices[i], devices[j], _ = exchange.Sync(devices[i], devices[j])
			} else {
				devices[i] = sample.Change(random.Intn, devices[i])
			}
		}
		a, b, err := exchange.Sync(devices[0], devices[1])
		list := [][]api.Tier{free(), sample.Tiers(), tiertype.Standard()}[random.Intn(3)]
		l := replica.Cells(a, 3)
		d, out := repair.Doc(rec(), list, l)
		e, other := repair.Doc(rec(), list, replica.Cells(b, 3))
		if err != api.OK || !exchange.Agree(a, b) || !tiers.Same(d, e) || !slices.Equal(out, other) {
			t.Fatalf("%v and %v, %v and %v: %d", d, e, out, other, err)
		}
		want, rest := placed(list, l)
		if !tiers.Same(d, want) || !slices.Equal(out, rest) {
			t.Fatalf("%v: %v, %v, want %v, %v", l, d, out, want, rest)
		}
		checkNothingLost(t, l, d, out)
		count[api.OK] += len(d.Notes)
		for _, x := range out {
			count[x.Why]++
		}
		for _, id := range repair.Conflicts(l) {
			if c, _ := replica.Cell(a, id); len(c.Text) < 2 && len(c.From) < 2 && len(c.To) < 2 {
				t.Fatalf("Conflicts of %v: %d", l, id)
			}
			count[-1]++
		}
	}
	for _, why := range []api.Errno{api.OK, api.ErrRange, api.ErrKind, api.ErrParent, api.ErrTime, api.ErrOverlap, api.ErrTwice, -1} {
		if count[why] < 40 {
			t.Errorf("only %d notes with %d", count[why], why)
		}
	}
}

// again returns a replica to which the notes of a document were added one by one, each behind its parent, and the new Id of each.
func again(t *testing.T, d api.Doc, order []int) (api.Replica, map[int]int) {
	r, _ := replica.New(4)
	ids := map[int]int{0: 0}
	for tier := range d.Tiers {
		for _, i := range order {
			n := d.Notes[i]
			if n.Tier != tier {
				continue
			}
			old, err := n.Id, api.OK
			n.Parent = ids[n.Parent]
			if r, ids[old], err = replica.Add(r, d.Rec.Id, n); err != api.OK {
				t.Fatal(n, err)
			}
		}
	}
	return r, ids
}

// P52.4: a right document without derived notes comes back.
func TestDocumentsComeBack(t *testing.T) {
	random := rand.New(rand.NewSource(53))
	notes := 0
	for range 300 {
		d := sample.Doc(random.Intn)
		d.Tiers = free()
		d.Notes = slices.DeleteFunc(d.Notes, func(n api.Note) bool {
			return slices.ContainsFunc(tiertype.Path(d.Tiers, n.Tier), func(i int) bool { return d.Tiers[i].Kind == api.TierParts })
		})
		if err := tiers.Check(d); err != api.OK {
			t.Fatal(err)
		}
		r, ids := again(t, d, random.Perm(len(d.Notes)))
		got, out := repair.Doc(d.Rec, d.Tiers, replica.Cells(r, d.Rec.Id))
		if len(out) != 0 || len(got.Notes) != len(d.Notes) {
			t.Fatalf("%v: %v, %v", d, got, out)
		}
		for _, n := range d.Notes {
			m, _ := tiers.Get(got, ids[n.Id])
			if n.Id, n.Parent = ids[n.Id], ids[n.Parent]; m != n {
				t.Fatalf("%v: %v, want %v", d, m, n)
			}
			notes++
		}
	}
	if notes < 2000 {
		t.Error("only", notes, "notes")
	}
}

// R5: results are new memory, and arguments stay as they are.
func TestMemory(t *testing.T) {
	r, list, l := rec(), free(), held(append(base(), ranked()...)...)
	d, out := repair.Doc(r, list, l)
	clear(d.Notes)
	clear(d.Tiers)
	clear(d.Rec.Speakers)
	clear(out)
	clear(repair.Conflicts(l))
	clear(repair.Texts(l[0]))
	clear(repair.Lost(l, api.Doc{}, nil))
	e, more := repair.Doc(r, list, l)
	want, rest := repair.Doc(rec(), free(), held(append(base(), ranked()...)...))
	if !tiers.Same(e, want) || !slices.Equal(more, rest) || len(rest) == 0 || !slices.Equal(e.Rec.Speakers, rec().Speakers) {
		t.Error(e, more)
	}
}

// ranked returns notes that are changed when they are placed, and one that is loose.
func ranked() []api.Note {
	return []api.Note{plain(40, sample.Morph, 20, 9, ""), plain(41, sample.Morph, 20, 5, ""), timed(42, sample.Text, 0, 3, 4, "")}
}

// The function ends for tiers and cells that are not right, too.
func TestWhatIsNotRight(t *testing.T) {
	odd := []api.Tier{{Kind: api.TierWithin, Parent: 0}, {Kind: 9, Parent: 77}, {Kind: api.TierLabel, Parent: -5}, {Kind: api.TierSeries, Parent: 3}}
	var notes []api.Note
	for tier := -1; tier < 5; tier++ {
		for parent := -1; parent < 3; parent++ {
			notes = append(notes, timed(parent, tier, parent, 0, 5, ""), timed(0, tier, parent, 0, 5, ""))
		}
	}
	repair.Doc(api.Recording{Length: math.MinInt}, odd, held(notes...))
	repair.Doc(api.Recording{Length: math.MaxInt}, odd, held(notes...))
	repair.Lost(held(notes...), api.Doc{Notes: notes}, nil)
}
