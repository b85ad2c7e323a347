package tiers_test

import (
	"cmp"
	"math"
	"math/rand"
	"slices"
	"strings"
	"testing"

	"langdoc/api"
	"langdoc/tiers"
)

// The tiers of most documents of these tests, of all kinds.
const (
	root = iota
	parts
	within
	series
	label
	other // a second root tier
	deep  // a series below label
)

func allTiers() []api.Tier {
	return []api.Tier{{Name: "root", Parent: -1}, {Name: "parts", Kind: api.TierParts, Parent: root}, {Name: "within", Kind: api.TierWithin, Parent: parts}, {Name: "series", Kind: api.TierSeries, Parent: within}, {Name: "label", Kind: api.TierLabel, Parent: series}, {Name: "other", Parent: -1}, {Name: "deep", Kind: api.TierSeries, Parent: label}}
}

// of returns a document of 12 milliseconds with all tiers and some notes.
func of(notes ...api.Note) api.Doc {
	return api.Doc{Rec: api.Recording{Length: 12}, Tiers: allTiers(), Notes: notes}
}

// timed returns a note with a span, and plain one without.
func timed(id, tier, parent, from, to int) api.Note {
	return api.Note{Id: id, Tier: tier, Parent: parent, Span: api.Span{From: from, To: to}}
}

func plain(id, tier, parent, rank int) api.Note {
	return api.Note{Id: id, Tier: tier, Parent: parent, Rank: rank}
}

// said returns a note with a text.
func said(n api.Note, s string) api.Note {
	n.Text = s
	return n
}

// ranked returns a note with a rank.
func ranked(n api.Note, rank int) api.Note {
	n.Rank = rank
	return n
}

// full returns a right document with notes on all tiers, in which parents may stand behind their kids.
func full() api.Doc {
	return of(
		plain(1, series, 20, 1), timed(3, root, 0, 6, 12), said(plain(4, label, 1, 0), "dog"), timed(5, parts, 7, 2, 5), timed(7, root, 0, 0, 5), timed(8, parts, 7, 0, 2), plain(10, deep, 4, 0),
		timed(12, within, 8, 1, 2), timed(13, parts, 3, 6, 12), plain(14, series, 12, 0), timed(15, other, 0, 3, 9), timed(20, within, 13, 8, 9), timed(21, within, 13, 6, 8), plain(30, series, 20, 0), plain(31, series, 20, 2), plain(32, label, 14, 0), plain(33, deep, 32, 0), plain(40, deep, 4, 1),
	)
}

// P12.1
func TestText(t *testing.T) {
	for s, want := range map[string]api.Errno{
		"": api.OK, " ": api.OK, "a b": api.OK, "~": api.OK, "\u00e9\u0301": api.OK, "\U0010ffff": api.OK, strings.Repeat("a", api.MaxText): api.OK, strings.Repeat("\u00e9", api.MaxText/2): api.OK, "\u0080": api.OK,
		strings.Repeat("a", api.MaxText+1): api.ErrLong, strings.Repeat("\n", api.MaxText+1): api.ErrLong, strings.Repeat("\u00e9", api.MaxText/2) + "a": api.ErrLong,
		"\n": api.ErrForm, "a\tb": api.ErrForm, "\x00": api.ErrForm, "a\x1f": api.ErrForm, "\x7f": api.ErrForm, "\xff": api.ErrForm, "a\xc3": api.ErrForm, "\xc0\x80": api.ErrForm, "\xed\xa0\x80": api.ErrForm, strings.Repeat("a", api.MaxText-1) + "\n": api.ErrForm,
	} {
		if err := tiers.Text(s); err != want {
			t.Errorf("Text of %q: %d, want %d", s, err, want)
		}
	}
}

// P12.2: what is examined before the notes.
func TestCheckDocument(t *testing.T) {
	many := make([]api.Note, api.MaxNotes+1)
	for i := range many {
		many[i] = timed(i+1, 0, 0, i, i+1)
	}
	one := []api.Tier{{Name: "a", Parent: -1}}
	for i, c := range []struct {
		d   api.Doc
		err api.Errno
	}{
		{api.Doc{}, api.OK}, {of(), api.OK}, {full(), api.OK}, {api.Doc{Tiers: one}, api.OK}, {api.Doc{Rec: api.Recording{Id: -5, Name: "A", Day: -1, Speakers: []int{2, 1}}}, api.OK},
		{api.Doc{Rec: api.Recording{Length: api.MaxMs}}, api.OK}, {api.Doc{Rec: api.Recording{Length: api.MaxMs + 1}}, api.ErrTime}, {api.Doc{Rec: api.Recording{Length: -1}}, api.ErrTime}, {api.Doc{Rec: api.Recording{Length: math.MinInt}, Notes: many}, api.ErrTime},
		{api.Doc{Rec: api.Recording{Length: -1}, Tiers: make([]api.Tier, api.MaxTiers+1)}, api.ErrFull}, {api.Doc{Rec: api.Recording{Length: -1}, Tiers: make([]api.Tier, 1), Notes: many}, api.ErrName}, {api.Doc{Tiers: []api.Tier{{Name: "a"}}}, api.ErrParent},
		{api.Doc{Rec: api.Recording{Length: 1000}, Tiers: one, Notes: many[:api.MaxNotes]}, api.OK}, {api.Doc{Rec: api.Recording{Length: 1000}, Tiers: one, Notes: many}, api.ErrFull}, {api.Doc{Notes: make([]api.Note, api.MaxNotes+1)}, api.ErrFull}, {api.Doc{Notes: make([]api.Note, 1)}, api.ErrRange},
		{api.Doc{Notes: []api.Note{{Id: 1}}}, api.ErrRange}, {api.Doc{Tiers: one, Notes: many[:1]}, api.ErrTime},
	} {
		if err := tiers.Check(c.d); err != c.err {
			t.Errorf("%d: Check = %d, want %d", i, err, c.err)
		}
	}
}

// P12.2: the notes, and in which order they are examined.
func TestCheckNotes(t *testing.T) {
	text, part := timed(5, root, 0, 2, 9), timed(6, parts, 5, 2, 9)
	for i, c := range []struct {
		notes []api.Note
		err   api.Errno
	}{
		{[]api.Note{text}, api.OK}, {[]api.Note{timed(api.MaxNum, root, 0, 0, 12)}, api.OK}, {[]api.Note{timed(1, root, 0, 0, 12)}, api.OK}, {[]api.Note{text, part}, api.OK},
		// 1
		{[]api.Note{timed(0, root, 0, 0, 12)}, api.ErrRange}, {[]api.Note{timed(api.MaxNum+1, root, 0, 0, 12)}, api.ErrRange}, {[]api.Note{timed(math.MinInt, root, 0, 0, 12)}, api.ErrRange}, {[]api.Note{timed(math.MaxInt, root, 0, 0, 12)}, api.ErrRange},
		{[]api.Note{text, timed(0, other, 0, 0, 1)}, api.ErrRange}, {[]api.Note{text, timed(5, other, 0, 0, 1)}, api.ErrOrder}, {[]api.Note{text, timed(4, other, 0, 0, 1)}, api.ErrOrder}, {[]api.Note{text, timed(5, 9, 0, 0, 1)}, api.ErrOrder}, {[]api.Note{text, timed(6, other, 0, 0, 1)}, api.OK},
		// 2
		{[]api.Note{timed(1, 7, 0, 0, 1)}, api.ErrRange}, {[]api.Note{timed(1, -1, 0, 0, 1)}, api.ErrRange}, {[]api.Note{said(timed(1, math.MaxInt, 0, 0, 1), "\n")}, api.ErrRange}, {[]api.Note{timed(1, math.MinInt, 0, 0, 1)}, api.ErrRange},
		// 3
		{[]api.Note{said(timed(1, root, 3, 0, 1), "\n")}, api.ErrForm}, {[]api.Note{said(timed(1, root, 0, 10, 5), "\n")}, api.ErrForm}, {[]api.Note{said(plain(1, label, 9, 0), strings.Repeat("a", api.MaxText+1))}, api.ErrLong}, {[]api.Note{said(text, strings.Repeat("a", api.MaxText))}, api.OK},
		// 4
		{[]api.Note{text, timed(6, other, 5, 3, 4)}, api.ErrParent}, {[]api.Note{text, timed(6, root, 5, 3, 4)}, api.ErrParent}, {[]api.Note{timed(1, root, 7, 9, 3)}, api.ErrParent}, {[]api.Note{timed(1, root, -1, 0, 1)}, api.ErrParent}, {[]api.Note{timed(5, root, 5, 0, 1)}, api.ErrParent},
		{[]api.Note{text, timed(6, parts, 0, 2, 9)}, api.ErrParent}, {[]api.Note{text, timed(6, parts, 4, 2, 9)}, api.ErrParent}, {[]api.Note{text, timed(6, parts, 6, 2, 9)}, api.ErrParent}, {[]api.Note{text, timed(6, parts, -5, 9, 2)}, api.ErrParent}, {[]api.Note{timed(5, other, 0, 2, 9), part}, api.ErrParent}, {[]api.Note{text, timed(6, within, 5, 2, 9)}, api.ErrParent}, {[]api.Note{text, part, plain(7, series, 6, -1)}, api.ErrParent}, {[]api.Note{text, part, timed(7, label, 5, 2, 9)}, api.ErrParent},
		{[]api.Note{timed(4, parts, 5, 2, 9), text}, api.OK},
		// 5
		{[]api.Note{timed(1, root, 0, 3, 3)}, api.ErrTime}, {[]api.Note{timed(1, root, 0, 0, 0)}, api.ErrTime}, {[]api.Note{timed(1, root, 0, 5, 3)}, api.ErrTime}, {[]api.Note{timed(1, root, 0, -1, 3)}, api.ErrTime}, {[]api.Note{timed(1, root, 0, 0, 13)}, api.ErrTime}, {[]api.Note{ranked(timed(1, root, 0, 0, math.MaxInt), 1)}, api.ErrTime},
		{[]api.Note{text, timed(6, parts, 5, 1, 9)}, api.ErrTime}, {[]api.Note{text, timed(6, parts, 5, 2, 10)}, api.ErrTime}, {[]api.Note{text, timed(6, parts, 5, 0, 1)}, api.ErrTime}, {[]api.Note{text, timed(6, parts, 5, 10, 11)}, api.ErrTime}, {[]api.Note{text, part, timed(7, within, 6, 8, 10)}, api.ErrTime}, {[]api.Note{text, part, timed(7, within, 6, 5, 5)}, api.ErrTime}, {[]api.Note{text, part, timed(7, within, 6, 2, 9)}, api.OK}, {[]api.Note{text, part, timed(7, within, 6, 5, 6)}, api.OK},
		{[]api.Note{text, part, timed(7, within, 6, 2, 9), timed(8, series, 7, 2, 9)}, api.ErrTime}, {[]api.Note{text, part, timed(7, within, 6, 2, 9), timed(8, series, 7, 0, -1)}, api.ErrTime}, {[]api.Note{text, part, timed(7, within, 6, 2, 9), ranked(timed(8, series, 7, 1, 0), -1)}, api.ErrTime}, {[]api.Note{text, part, timed(7, within, 6, 2, 9), plain(8, series, 7, 0), timed(9, label, 8, 0, 1)}, api.ErrTime},
		// The note of an Id is the first one with it.
		{[]api.Note{timed(4, parts, 5, 2, 9), text, timed(5, root, 0, 3, 4)}, api.ErrOrder}, {[]api.Note{timed(4, parts, 5, 2, 9), timed(5, root, 0, 3, 4), text}, api.ErrTime}, {[]api.Note{timed(4, parts, 5, 2, 9), timed(5, other, 0, 2, 9), text}, api.ErrParent}, {[]api.Note{timed(4, parts, 5, 2, 9), text, timed(5, other, 0, 2, 9)}, api.ErrOrder},
		// 6
		{[]api.Note{ranked(text, 1)}, api.ErrArg}, {[]api.Note{ranked(text, -1)}, api.ErrArg}, {[]api.Note{text, ranked(part, 1)}, api.ErrArg}, {[]api.Note{text, part, ranked(timed(7, within, 6, 2, 9), math.MaxInt)}, api.ErrArg}, {[]api.Note{text, part, timed(7, within, 6, 2, 9), plain(8, series, 7, -1)}, api.ErrArg}, {[]api.Note{text, part, timed(7, within, 6, 2, 9), plain(8, series, 7, math.MinInt)}, api.ErrArg}, {[]api.Note{text, part, timed(7, within, 6, 2, 9), plain(8, series, 7, 0), plain(9, label, 8, 1)}, api.ErrArg},
		// All of a note comes before the next one, and all notes before the tiers.
		{[]api.Note{ranked(text, 1), {}}, api.ErrArg}, {[]api.Note{said(text, "\n"), {}}, api.ErrForm}, {[]api.Note{text, timed(6, root, 0, 2, 9), {}}, api.ErrRange}, {[]api.Note{text, timed(6, root, 0, 2, 9), said(timed(7, other, 0, 1, 2), "\n")}, api.ErrForm},
	} {
		if err := tiers.Check(of(c.notes...)); err != c.err {
			t.Errorf("%d: Check of %v = %d, want %d", i, c.notes, err, c.err)
		}
	}
}

// P12.2: the notes of a tier with each other, and in which order they are examined.
func TestCheckTiers(t *testing.T) {
	text, next, part, word := timed(1, root, 0, 2, 6), timed(2, root, 0, 6, 12), timed(3, parts, 1, 2, 6), timed(4, within, 3, 2, 6)
	for i, c := range []struct {
		notes []api.Note
		err   api.Errno
	}{
		// Overlaps, also of notes that contain or equal each other, and of those that are no neighbours in the list.
		{[]api.Note{text, next}, api.OK}, {[]api.Note{text, timed(2, root, 0, 5, 7)}, api.ErrOverlap}, {[]api.Note{text, timed(2, root, 0, 0, 3)}, api.ErrOverlap}, {[]api.Note{text, timed(2, root, 0, 0, 2)}, api.OK}, {[]api.Note{text, timed(2, root, 0, 2, 6)}, api.ErrOverlap}, {[]api.Note{text, timed(2, root, 0, 3, 4)}, api.ErrOverlap}, {[]api.Note{text, next, timed(3, root, 0, 0, 3)}, api.ErrOverlap}, {[]api.Note{text, timed(2, other, 0, 3, 9)}, api.OK},
		{[]api.Note{text, timed(2, root, 0, 7, 8), timed(3, root, 0, 9, 10), timed(5, root, 0, 8, 9), timed(6, root, 0, 0, 1), timed(7, root, 0, 2, 3)}, api.ErrOverlap},
		{[]api.Note{text, part, word, timed(5, within, 3, 5, 6)}, api.ErrOverlap}, {[]api.Note{text, part, timed(4, within, 3, 4, 6), timed(5, within, 3, 2, 4)}, api.OK}, {[]api.Note{text, timed(3, parts, 1, 2, 5), timed(4, parts, 1, 4, 6)}, api.ErrOverlap},
		// Gaps at the beginning, at the end and between; parents without notes have none.
		{[]api.Note{text, next, part}, api.OK}, {[]api.Note{text, timed(3, parts, 1, 3, 6)}, api.ErrGap}, {[]api.Note{text, timed(3, parts, 1, 2, 5)}, api.ErrGap}, {[]api.Note{text, timed(3, parts, 1, 4, 6), timed(4, parts, 1, 2, 3)}, api.ErrGap}, {[]api.Note{text, timed(3, parts, 1, 3, 6), timed(4, parts, 1, 2, 3)}, api.OK}, {[]api.Note{text, next, part, timed(5, parts, 2, 7, 12)}, api.ErrGap}, {[]api.Note{text, next, part, timed(5, parts, 2, 6, 12)}, api.OK},
		{[]api.Note{text, next, timed(3, parts, 1, 3, 6), timed(4, parts, 2, 6, 12), timed(5, parts, 2, 7, 8)}, api.ErrOverlap}, {[]api.Note{text, next, timed(3, parts, 1, 2, 6), timed(4, parts, 1, 3, 4), timed(5, parts, 2, 7, 8)}, api.ErrOverlap},
		// Ranks.
		{[]api.Note{text, part, word, plain(5, series, 4, 0)}, api.OK}, {[]api.Note{text, part, word, plain(5, series, 4, 1)}, api.ErrOrder}, {[]api.Note{text, part, word, plain(5, series, 4, 0), plain(6, series, 4, 0)}, api.ErrOrder}, {[]api.Note{text, part, word, plain(5, series, 4, 1), plain(6, series, 4, 0)}, api.OK}, {[]api.Note{text, part, word, plain(5, series, 4, 2), plain(6, series, 4, 0)}, api.ErrOrder}, {[]api.Note{text, part, word, plain(5, series, 4, 1), plain(6, series, 4, 0), plain(7, series, 4, 1)}, api.ErrOrder}, {[]api.Note{text, part, timed(4, within, 3, 2, 4), timed(5, within, 3, 4, 6), plain(6, series, 4, 0), plain(7, series, 5, 1)}, api.ErrOrder}, {[]api.Note{text, part, timed(4, within, 3, 2, 4), timed(5, within, 3, 4, 6), plain(6, series, 4, 0), plain(7, series, 5, 0)}, api.OK},
		// Labels.
		{[]api.Note{text, part, word, plain(5, series, 4, 0), plain(6, label, 5, 0), plain(7, label, 5, 0)}, api.ErrTwice}, {[]api.Note{text, part, word, plain(5, series, 4, 0), plain(6, series, 4, 1), plain(7, label, 5, 0), plain(8, label, 6, 0)}, api.OK},
		// The first tier with an error decides.
		{[]api.Note{text, timed(2, other, 0, 1, 3), timed(3, other, 0, 2, 3), timed(4, parts, 1, 3, 6)}, api.ErrGap}, {[]api.Note{text, part, word, plain(5, series, 4, 0), plain(6, label, 5, 0), plain(7, label, 5, 0), plain(8, series, 4, 2)}, api.ErrOrder}, {[]api.Note{text, part, word, plain(5, series, 4, 0), plain(6, label, 5, 0), plain(7, label, 5, 0), timed(8, other, 0, 1, 3), timed(9, other, 0, 1, 3)}, api.ErrTwice},
	} {
		if err := tiers.Check(of(c.notes...)); err != c.err {
			t.Errorf("%d: Check of %v = %d, want %d", i, c.notes, err, c.err)
		}
	}
}

// P12.3
func TestGet(t *testing.T) {
	d := full()
	for _, want := range d.Notes {
		if n, ok := tiers.Get(d, want.Id); !ok || n != want {
			t.Errorf("Get of %d: %v, %t", want.Id, n, ok)
		}
	}
	for _, id := range []int{0, 2, 41, -1, math.MinInt, math.MaxInt} {
		if n, ok := tiers.Get(d, id); ok || n != (api.Note{}) {
			t.Errorf("Get of %d: %v, %t", id, n, ok)
		}
	}
	// Of any document: the first note with an Id, in no order.
	d = api.Doc{Notes: []api.Note{{Id: 9, Tier: 99}, {Id: -3, Rank: 1}, {Id: 0, Rank: 2}, {Id: 9, Rank: 3}, {Id: -3, Rank: 4}}}
	for id, want := range map[int]api.Note{9: d.Notes[0], -3: d.Notes[1], 0: d.Notes[2]} {
		if n, ok := tiers.Get(d, id); !ok || n != want {
			t.Errorf("Get of %d: %v, %t", id, n, ok)
		}
	}
}

// P12.4
func TestOfAndKids(t *testing.T) {
	d := full()
	for tier, want := range [][]int{root: {7, 3}, parts: {8, 5, 13}, within: {12, 21, 20}, series: {14, 30, 1, 31}, label: {32, 4}, other: {15}, deep: {33, 10, 40}} {
		if l := tiers.Of(d, tier); !slices.Equal(l, want) {
			t.Errorf("Of %d: %v", tier, l)
		}
	}
	for _, tier := range []int{-1, 7, math.MinInt, math.MaxInt} {
		if len(tiers.Of(d, tier)) != 0 || len(tiers.Kids(d, 0, tier)) != 0 || len(tiers.Kids(d, 7, tier)) != 0 {
			t.Errorf("tier %d: %v", tier, tiers.Of(d, tier))
		}
	}
	for _, c := range []struct {
		id, tier int
		want     []int
	}{
		{0, root, []int{7, 3}}, {0, other, []int{15}}, {7, parts, []int{8, 5}}, {3, parts, []int{13}}, {15, parts, nil}, {13, within, []int{21, 20}}, {5, within, nil}, {20, series, []int{30, 1, 31}}, {1, label, []int{4}}, {30, label, nil}, {4, deep, []int{10, 40}},
		{0, parts, nil}, {0, series, nil}, {0, label, nil}, {7, root, nil}, {7, within, nil}, {7, other, nil}, {20, label, nil}, {99, parts, nil}, {-1, root, nil}, {math.MaxInt, series, nil},
	} {
		if l := tiers.Kids(d, c.id, c.tier); !slices.Equal(l, c.want) {
			t.Errorf("Kids of %d in %d: %v", c.id, c.tier, l)
		}
	}
	if len(tiers.Of(api.Doc{}, 0)) != 0 || len(tiers.Kids(api.Doc{}, 0, 0)) != 0 || len(tiers.Of(of(), deep)) != 0 {
		t.Error("no notes")
	}
}

// P12.5
func TestSame(t *testing.T) {
	if !tiers.Same(full(), full()) || !tiers.Same(api.Doc{}, api.Doc{Rec: api.Recording{Speakers: []int{}}, Tiers: []api.Tier{}, Notes: []api.Note{}}) {
		t.Error("equal documents")
	}
	d := full()
	d.Rec.Speakers = []int{1, 2}
	for i, turn := range []func(d *api.Doc){
		func(d *api.Doc) { d.Rec.Id++ }, func(d *api.Doc) { d.Rec.Name = "x" }, func(d *api.Doc) { d.Rec.Length++ }, func(d *api.Doc) { d.Rec.Day++ }, func(d *api.Doc) { d.Rec.Speakers = nil }, func(d *api.Doc) { d.Rec.Speakers = []int{2, 1} }, func(d *api.Doc) { d.Rec.Speakers = []int{1} },
		func(d *api.Doc) { d.Tiers = d.Tiers[:6] }, func(d *api.Doc) { d.Tiers[3].Name = "x" }, func(d *api.Doc) { d.Tiers[3].Kind++ }, func(d *api.Doc) { d.Tiers[3].Role++ }, func(d *api.Doc) { d.Tiers[3].Parent++ },
		func(d *api.Doc) { d.Notes = d.Notes[1:] }, func(d *api.Doc) { d.Notes[5].Id++ }, func(d *api.Doc) { d.Notes[5].Tier++ }, func(d *api.Doc) { d.Notes[5].Parent++ }, func(d *api.Doc) { d.Notes[5].Span.From++ }, func(d *api.Doc) { d.Notes[5].Span.To++ }, func(d *api.Doc) { d.Notes[5].Rank++ }, func(d *api.Doc) { d.Notes[5].Text = "x" },
	} {
		e := api.Doc{Rec: d.Rec, Tiers: slices.Clone(d.Tiers), Notes: slices.Clone(d.Notes)}
		turn(&e)
		if tiers.Same(d, e) || tiers.Same(e, d) || !tiers.Same(e, e) {
			t.Errorf("change %d", i)
		}
	}
}

// pieces returns spans within a span, which do not overlap; all of it, if whole.
func pieces(random *rand.Rand, s api.Span, whole bool) []api.Span {
	var l []api.Span
	for at := s.From; at < s.To; {
		to := min(at+1+random.Intn(5), s.To)
		if whole || random.Intn(2) == 0 {
			l = append(l, api.Span{From: at, To: to})
		}
		at = to
	}
	return l
}

// below returns notes that a parent may have in a tier, without Ids.
func below(random *rand.Rand, tier int, parent api.Note) []api.Note {
	kind := allTiers()[tier].Kind
	var spans []api.Span
	switch kind {
	case api.TierSeries:
		spans = make([]api.Span, random.Intn(4))
	case api.TierLabel:
		spans = make([]api.Span, random.Intn(2))
	default:
		if random.Intn(4) > 0 {
			spans = pieces(random, parent.Span, kind == api.TierParts)
		}
	}
	var l []api.Note
	for i, s := range spans {
		n := api.Note{Tier: tier, Parent: parent.Id, Span: s}
		if kind == api.TierSeries {
			n.Rank = i
		}
		l = append(l, n)
	}
	return l
}

// grown returns a right document, whose notes have Ids in no order.
func grown(random *rand.Rand) api.Doc {
	d := of()
	free := random.Perm(2000)
	for tier, x := range d.Tiers {
		parents := []api.Note{{Span: api.Span{To: d.Rec.Length}}}
		if x.Parent >= 0 {
			parents = slices.DeleteFunc(slices.Clone(d.Notes), func(n api.Note) bool { return n.Tier != x.Parent })
		}
		for _, parent := range parents {
			for _, n := range below(random, tier, parent) {
				n.Id, free = free[0]+1, free[1:]
				d.Notes = append(d.Notes, n)
			}
		}
	}
	slices.SortFunc(d.Notes, func(a, b api.Note) int { return cmp.Compare(a.Id, b.Id) })
	return d
}

// bend changes something about a document.
func bend(random *rand.Rand, d *api.Doc) {
	if len(d.Notes) == 0 {
		return
	}
	n, m := &d.Notes[random.Intn(len(d.Notes))], d.Notes[random.Intn(len(d.Notes))]
	switch random.Intn(13) {
	case 0:
		n.Id += random.Intn(3) - 1
	case 1:
		n.Tier = random.Intn(9) - 1
	case 2:
		n.Text = []string{"a", "\n", strings.Repeat("a", 201)}[random.Intn(3)]
	case 3:
		n.Parent = []int{0, m.Id, m.Parent, n.Id, -1}[random.Intn(5)]
	case 4:
		n.Span.From += random.Intn(3) - 1
	case 5:
		n.Span.To += random.Intn(3) - 1
	case 6:
		n.Rank += random.Intn(3) - 1
	case 7:
		n.Span = m.Span
	case 8:
		n.Parent, n.Span = m.Parent, m.Span
	case 9:
		d.Rec.Length--
	case 10:
		m.Id = d.Notes[len(d.Notes)-1].Id + 1
		d.Notes = append(d.Notes, m)
	default:
		i := slices.Index(d.Notes, m)
		d.Notes = slices.Delete(d.Notes, i, i+1)
	}
}

// times returns the milliseconds of a span.
func times(s api.Span) []int {
	var l []int
	for at := s.From; at < s.To; at++ {
		l = append(l, at)
	}
	return l
}

// defined returns the error of a document whose tiers are right, from the definition.
func defined(d api.Doc) api.Errno {
	for i, n := range d.Notes {
		if err := definedNote(d, i, n); err != api.OK {
			return err
		}
	}
	for tier, x := range d.Tiers {
		members := slices.DeleteFunc(slices.Clone(d.Notes), func(n api.Note) bool { return n.Tier != tier })
		overlap, gap, order, twice := false, false, false, false
		for i, n := range members {
			var covered, ranks []int
			for j, m := range members {
				if m.Parent != n.Parent {
					continue
				}
				both := slices.ContainsFunc(times(n.Span), func(at int) bool { return slices.Contains(times(m.Span), at) })
				overlap = overlap || i != j && both
				twice = twice || i != j
				covered, ranks = append(covered, times(m.Span)...), append(ranks, m.Rank)
			}
			parent, _ := first(d, n.Parent)
			gap = gap || slices.ContainsFunc(times(parent.Span), func(at int) bool { return !slices.Contains(covered, at) })
			for rank := range ranks {
				order = order || !slices.Contains(ranks, rank)
			}
		}
		switch {
		case overlap:
			return api.ErrOverlap
		case gap && x.Kind == api.TierParts:
			return api.ErrGap
		case order && x.Kind == api.TierSeries:
			return api.ErrOrder
		case twice && x.Kind == api.TierLabel:
			return api.ErrTwice
		}
	}
	return api.OK
}

// first returns the first note with an Id.
func first(d api.Doc, id int) (api.Note, bool) {
	for _, n := range d.Notes {
		if n.Id == id {
			return n, true
		}
	}
	return api.Note{}, false
}

// definedNote returns the error of the note i of a document, from the definition.
func definedNote(d api.Doc, i int, n api.Note) api.Errno {
	if n.Id < 1 || n.Id > 1<<40 {
		return api.ErrRange
	}
	if i > 0 && n.Id <= d.Notes[i-1].Id {
		return api.ErrOrder
	}
	if n.Tier < 0 || n.Tier >= len(d.Tiers) {
		return api.ErrRange
	}
	if err := tiers.Text(n.Text); err != api.OK {
		return err
	}
	x := d.Tiers[n.Tier]
	parent, ok := first(d, n.Parent)
	right := 0 <= n.Span.From && n.Span.From < n.Span.To && n.Span.To <= 86400000
	inside := parent.Span.From <= n.Span.From && n.Span.To <= parent.Span.To
	if x.Kind == api.TierRoot {
		ok, inside = n.Parent == 0, n.Span.To <= d.Rec.Length
	} else {
		ok = ok && parent.Tier == x.Parent
	}
	switch {
	case !ok:
		return api.ErrParent
	case x.Kind <= api.TierWithin && (!right || !inside):
		return api.ErrTime
	case x.Kind > api.TierWithin && n.Span != api.Span{}:
		return api.ErrTime
	case n.Rank < 0 || n.Rank != 0 && x.Kind != api.TierSeries:
		return api.ErrArg
	}
	return api.OK
}

// P12.2, P12.4, P12.6: of many documents, Check is what the definition says, and the right ones have the orders of the definition and obey the laws.
func TestManyDocuments(t *testing.T) {
	random := rand.New(rand.NewSource(12))
	count := map[api.Errno]int{}
	for i := range 20000 {
		d := grown(random)
		for range i % 4 {
			bend(random, &d)
		}
		err := tiers.Check(d)
		if want := defined(d); err != want || i%4 == 0 && err != api.OK {
			t.Fatalf("Check of %v = %d, want %d", d, err, want)
		}
		count[err]++
		if err == api.OK {
			checkOrders(t, d)
			checkLaws(t, d)
		}
	}
	for _, err := range []api.Errno{api.OK, api.ErrRange, api.ErrOrder, api.ErrForm, api.ErrLong, api.ErrParent, api.ErrTime, api.ErrArg, api.ErrOverlap, api.ErrGap, api.ErrTwice} {
		if count[err] < 20 {
			t.Errorf("only %d documents with the error %d", count[err], err)
		}
	}
}

// compare compares two notes of a tier, from the definition of its order.
func compare(d api.Doc, a, b api.Note) int {
	if a.Parent != b.Parent {
		p, _ := first(d, a.Parent)
		q, _ := first(d, b.Parent)
		return compare(d, p, q)
	}
	if d.Tiers[a.Tier].Kind == api.TierSeries {
		return cmp.Compare(a.Rank, b.Rank)
	}
	return cmp.Compare(a.Span.From, b.Span.From)
}

func checkOrders(t *testing.T, d api.Doc) {
	for tier := range d.Tiers {
		members := slices.DeleteFunc(slices.Clone(d.Notes), func(n api.Note) bool { return n.Tier != tier })
		slices.SortFunc(members, func(a, b api.Note) int { return compare(d, a, b) })
		var all []int
		kids := map[int][]int{}
		for _, n := range members {
			all = append(all, n.Id)
			kids[n.Parent] = append(kids[n.Parent], n.Id)
		}
		if l := tiers.Of(d, tier); !slices.Equal(l, all) {
			t.Fatalf("Of %d in %v: %v, want %v", tier, d, l, all)
		}
		for _, n := range append(d.Notes, api.Note{}) {
			if l := tiers.Kids(d, n.Id, tier); !slices.Equal(l, kids[n.Id]) {
				t.Fatalf("Kids of %d in %d in %v: %v, want %v", n.Id, tier, d, l, kids[n.Id])
			}
		}
	}
}

// checkLaws checks what P12.6 says of a right document.
func checkLaws(t *testing.T, d api.Doc) {
	times := map[int]int{}
	for tier, x := range d.Tiers {
		end := 0
		for _, id := range tiers.Of(d, tier) {
			n, _ := tiers.Get(d, id)
			times[id]++
			if n.Tier != tier || x.Kind <= api.TierWithin && n.Span.From < end {
				t.Fatalf("the note %d in the tier %d of %v", id, tier, d)
			}
			if n.Parent != 0 && !slices.Contains(tiers.Kids(d, n.Parent, tier), id) {
				t.Fatalf("%d is not among the Kids of its parent in %v", id, d)
			}
			end = n.Span.To
		}
	}
	for i, n := range d.Notes {
		if times[n.Id] != 1 {
			t.Fatalf("%d is in Of of %d tiers of %v", n.Id, times[n.Id], d)
		}
		kind := d.Tiers[n.Tier].Kind
		if slices.ContainsFunc(d.Notes, func(m api.Note) bool { return m.Parent == n.Id }) || kind == api.TierParts || kind == api.TierSeries {
			continue
		}
		less := d
		less.Notes = slices.Delete(slices.Clone(d.Notes), i, i+1)
		if err := tiers.Check(less); err != api.OK {
			t.Fatalf("without %d, %v has the error %d", n.Id, d, err)
		}
	}
}

// R5, R6: results are new memory, arguments stay as they are, and equal arguments give equal results.
func TestMemory(t *testing.T) {
	d := full()
	for range 20 {
		for tier := range d.Tiers {
			of, kids := tiers.Of(d, tier), tiers.Kids(d, 20, tier)
			clear(tiers.Of(d, tier))
			clear(tiers.Kids(d, 20, tier))
			if !slices.Equal(of, tiers.Of(d, tier)) || !slices.Equal(kids, tiers.Kids(d, 20, tier)) {
				t.Errorf("tier %d", tier)
			}
		}
	}
	if tiers.Check(d) != api.OK || !tiers.Same(d, full()) {
		t.Error(d)
	}
}

// Documents that are not right may have cycles, and Ids again and again; the functions end nevertheless.
func TestDocumentsThatAreNotRight(t *testing.T) {
	again := of()
	for i := range api.MaxNotes {
		again.Notes = append(again.Notes, plain(1, i%7, min(1, i%7%5), i))
	}
	cycle := api.Doc{Tiers: []api.Tier{{Parent: 1}, {Parent: 0}}, Notes: []api.Note{plain(1, 0, 2, 0), plain(2, 1, 1, 0), plain(3, 9, 3, -1)}}
	for _, d := range []api.Doc{again, cycle} {
		if tiers.Check(d) == api.OK {
			t.Error("Check")
		}
		for tier := -1; tier < 10; tier++ {
			if len(tiers.Of(d, tier)) > len(d.Notes) || len(tiers.Kids(d, 1, tier)) > len(d.Notes) {
				t.Fatalf("more notes in the tier %d than there are", tier)
			}
		}
	}
}
