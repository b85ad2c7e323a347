package tieredit_test

import (
	"cmp"
	"math"
	"math/rand"
	"slices"
	"strings"
	"testing"

	"langdoc/api"
	"langdoc/sample"
	"langdoc/tieredit"
	"langdoc/tiers"
)

// timed returns a note with a span, and plain one without.
func timed(id, tier, parent, from, to int) api.Note {
	return api.Note{Id: id, Tier: tier, Parent: parent, Span: api.Span{From: from, To: to}}
}

func plain(id, tier, parent, rank int) api.Note {
	return api.Note{Id: id, Tier: tier, Parent: parent, Rank: rank}
}

func said(n api.Note, s string) api.Note {
	n.Text = s
	return n
}

// full returns a right document: two texts, of which the first one has three parts with parts of their own, a word, and a free translation.
func full() api.Doc {
	return sample.Of(
		said(timed(10, sample.Text, 0, 0, 8), "ba"), said(timed(11, sample.Text, 0, 8, 10), "mi"), timed(12, sample.Other, 0, 3, 9),
		timed(20, sample.Part, 10, 0, 2), timed(21, sample.Part, 10, 5, 8), timed(22, sample.Part, 10, 2, 5),
		timed(30, sample.Sub, 20, 1, 2), timed(31, sample.Sub, 20, 0, 1), timed(32, sample.Sub, 21, 5, 6), timed(33, sample.Sub, 21, 6, 8),
		timed(40, sample.Inner, 30, 1, 2), timed(41, sample.Inner, 32, 5, 6),
		said(timed(50, sample.Word, 10, 1, 4), "w"), plain(60, sample.Morph, 50, 1), plain(61, sample.Morph, 50, 0), plain(62, sample.Morph, 50, 2), said(plain(70, sample.Gloss, 60, 0), "dog"), plain(80, sample.Deep, 70, 0), plain(81, sample.Deep, 70, 1), said(plain(90, sample.Free, 10, 0), "free"),
	)
}

// with returns full with other notes instead of those with the same Ids, or in addition, and without some.
func with(notes []api.Note, without ...int) api.Doc {
	d := full()
	for _, n := range notes {
		without = append(without, n.Id)
	}
	d.Notes = slices.DeleteFunc(d.Notes, func(n api.Note) bool { return slices.Contains(without, n.Id) })
	d.Notes = append(d.Notes, notes...)
	slices.SortFunc(d.Notes, func(a, b api.Note) int { return cmp.Compare(a.Id, b.Id) })
	return d
}

// check checks the result of a call: want without an error, and nothing with one.
func check(t *testing.T, name string, i int, d, want api.Doc, err, wantErr api.Errno) {
	t.Helper()
	if wantErr != api.OK {
		want = api.Doc{}
	}
	if err != wantErr || !tiers.Same(d, want) {
		t.Errorf("%s %d: error %d, want %d; %v, want %v", name, i, err, wantErr, d.Notes, want.Notes)
	}
	if err == api.OK && tiers.Check(d) != api.OK {
		t.Errorf("%s %d: a document that is not right: %d", name, i, tiers.Check(d))
	}
}

func TestExample(t *testing.T) {
	if err := tiers.Check(full()); err != api.OK {
		t.Error("the document of the tests is not right:", err)
	}
}

// P13.1
func TestAdd(t *testing.T) {
	for i, c := range []struct {
		n     api.Note
		moved []api.Note // the notes that change
		err   api.Errno
	}{
		// Its place is that of its Id.
		{timed(1, sample.Other, 0, 0, 3), nil, api.OK}, {timed(13, sample.Other, 0, 0, 3), nil, api.OK}, {said(timed(api.MaxNum, sample.Text, 0, 11, 12), "ba mi"), nil, api.OK},
		{timed(35, sample.Part, 11, 8, 10), nil, api.OK}, {plain(35, sample.Gloss, 61, 0), nil, api.OK}, {plain(100, sample.Free, 11, 0), nil, api.OK},
		// In a series, later siblings move.
		{plain(1, sample.Morph, 50, 0), []api.Note{plain(61, sample.Morph, 50, 1), plain(60, sample.Morph, 50, 2), plain(62, sample.Morph, 50, 3)}, api.OK}, {plain(65, sample.Morph, 50, 2), []api.Note{plain(62, sample.Morph, 50, 3)}, api.OK}, {plain(65, sample.Morph, 50, 3), nil, api.OK}, {plain(65, sample.Deep, 70, 1), []api.Note{plain(81, sample.Deep, 70, 2)}, api.OK},
		// ErrTwice comes first, then the rank.
		{plain(61, sample.Morph, 50, 9), nil, api.ErrTwice}, {timed(90, 99, 0, 3, 1), nil, api.ErrTwice}, {timed(12, sample.Other, 0, 0, 1), nil, api.ErrTwice},
		{plain(65, sample.Morph, 50, 4), nil, api.ErrRange}, {plain(65, sample.Morph, 50, -1), nil, api.ErrRange}, {plain(65, sample.Morph, 50, math.MaxInt), nil, api.ErrRange}, {plain(65, sample.Morph, 50, math.MinInt), nil, api.ErrRange}, {said(plain(65, sample.Morph, 99, 1), "\n"), nil, api.ErrRange}, {plain(65, sample.Deep, 70, 3), nil, api.ErrRange},
		// The error of the document.
		{plain(65, sample.Morph, 99, 0), nil, api.ErrParent}, {plain(65, sample.Morph, 10, 0), nil, api.ErrParent}, {timed(0, sample.Other, 0, 0, 1), nil, api.ErrRange}, {timed(-5, sample.Other, 0, 0, 1), nil, api.ErrRange}, {timed(math.MinInt, sample.Other, 0, 0, 1), nil, api.ErrRange}, {timed(api.MaxNum+1, sample.Other, 0, 0, 1), nil, api.ErrRange}, {plain(1, -1, 50, -1), nil, api.ErrRange}, {plain(1, 11, 50, 0), nil, api.ErrRange}, {plain(1, math.MaxInt, 50, 7), nil, api.ErrRange},
		{said(timed(1, sample.Other, 0, 0, 1), "\n"), nil, api.ErrForm}, {said(timed(1, sample.Other, 0, 0, 1), strings.Repeat("a", api.MaxText+1)), nil, api.ErrLong}, {timed(1, sample.Other, 0, 12, 13), nil, api.ErrTime}, {timed(1, sample.Word, 10, 7, 9), nil, api.ErrTime}, {timed(1, sample.Morph, 50, 1, 2), nil, api.ErrTime}, {plain(1, sample.Gloss, 61, 1), nil, api.ErrArg},
		{timed(1, sample.Other, 0, 2, 4), nil, api.ErrOverlap}, {timed(1, sample.Word, 10, 3, 8), nil, api.ErrOverlap}, {timed(1, sample.Part, 11, 8, 9), nil, api.ErrGap}, {timed(1, sample.Part, 10, 5, 8), nil, api.ErrOverlap}, {plain(1, sample.Gloss, 60, 0), nil, api.ErrTwice}, {plain(1, sample.Free, 10, 0), nil, api.ErrTwice},
	} {
		d, err := tieredit.Add(full(), c.n)
		check(t, "Add", i, d, with(append(c.moved, c.n)), err, c.err)
	}
	many := sample.Of()
	many.Rec.Length = 1000
	for i := range api.MaxNotes {
		many.Notes = append(many.Notes, timed(i+1, sample.Other, 0, i, i+1))
	}
	if d, err := tieredit.Add(many, timed(500, sample.Other, 0, 500, 501)); err != api.ErrFull || len(d.Notes)+len(d.Tiers) != 0 {
		t.Error("Add to a full document:", err)
	}
	many.Notes = many.Notes[1:]
	if d, err := tieredit.Add(many, timed(500, sample.Other, 0, 500, 501)); err != api.OK || len(d.Notes) != api.MaxNotes {
		t.Error("Add of the last note:", err)
	}
}

// P13.2
func TestDrop(t *testing.T) {
	for i, c := range []struct {
		id    int
		gone  []int
		moved []api.Note
	}{
		{12, []int{12}, nil}, {11, []int{11}, nil}, {90, []int{90}, nil}, {40, []int{40}, nil}, {70, []int{70, 80, 81}, nil}, {50, []int{50, 60, 61, 62, 70, 80, 81}, nil}, {10, []int{10, 20, 21, 22, 30, 31, 32, 33, 40, 41, 50, 60, 61, 62, 70, 80, 81, 90}, nil},
		// In a series, later siblings move.
		{62, []int{62}, nil}, {60, []int{60, 70, 80, 81}, []api.Note{plain(62, sample.Morph, 50, 1)}}, {61, []int{61}, []api.Note{plain(60, sample.Morph, 50, 0), plain(62, sample.Morph, 50, 1)}}, {80, []int{80}, []api.Note{plain(81, sample.Deep, 70, 0)}},
		// The end of the part before is extended, with that of its last part; what lies within that stays.
		{22, []int{22}, []api.Note{timed(20, sample.Part, 10, 0, 5), timed(30, sample.Sub, 20, 1, 5)}}, {21, []int{21, 32, 33, 41}, []api.Note{timed(22, sample.Part, 10, 2, 8)}}, {30, []int{30, 40}, []api.Note{timed(31, sample.Sub, 20, 0, 2)}}, {33, []int{33}, []api.Note{timed(32, sample.Sub, 21, 5, 8)}},
		// Without one before it, the beginning of the one behind it.
		{20, []int{20, 30, 31, 40}, []api.Note{timed(22, sample.Part, 10, 0, 5)}}, {31, []int{31}, []api.Note{timed(30, sample.Sub, 20, 0, 2)}}, {32, []int{32, 41}, []api.Note{timed(33, sample.Sub, 21, 5, 8)}},
	} {
		d, gone, err := tieredit.Drop(full(), c.id)
		check(t, "Drop", i, d, with(c.moved, c.gone...), err, api.OK)
		if !slices.Equal(gone, c.gone) {
			t.Errorf("Drop of %d: %v, want %v", c.id, gone, c.gone)
		}
	}
	for _, id := range []int{0, 13, -10, math.MaxInt, math.MinInt} {
		if d, gone, err := tieredit.Drop(full(), id); err != api.ErrNone || len(gone) != 0 || !tiers.Same(d, api.Doc{}) {
			t.Errorf("Drop of %d: %v, %v, %d", id, d, gone, err)
		}
	}
	// The first part is dropped: that behind it is extended to the beginning, with its first part (example 2). The last part of all leaves none.
	d := sample.Of(timed(1, sample.Text, 0, 2, 9), timed(2, sample.Part, 1, 2, 4), timed(3, sample.Part, 1, 4, 9), timed(4, sample.Sub, 3, 6, 9), timed(5, sample.Sub, 3, 4, 6))
	d, _, _ = tieredit.Drop(d, 2)
	if want := sample.Of(timed(1, sample.Text, 0, 2, 9), timed(3, sample.Part, 1, 2, 9), timed(4, sample.Sub, 3, 6, 9), timed(5, sample.Sub, 3, 2, 6)); !tiers.Same(d, want) {
		t.Error("Drop of a first part:", d.Notes)
	}
	if d, _, err := tieredit.Drop(d, 3); err != api.OK || !tiers.Same(d, sample.Of(timed(1, sample.Text, 0, 2, 9))) {
		t.Error("Drop of the only part:", d.Notes, err)
	}
}

// P13.3
func TestWriteAndMove(t *testing.T) {
	long := strings.Repeat("a", api.MaxText)
	for i, c := range []struct {
		id   int
		text string
		err  api.Errno
	}{
		{10, "", api.OK}, {10, "ba", api.OK}, {90, long, api.OK}, {70, "\u00e9 x", api.OK}, {90, long + "a", api.ErrLong}, {10, "\n", api.ErrForm}, {10, "\xff", api.ErrForm}, {13, "\n", api.ErrNone}, {0, "", api.ErrNone}, {-1, "", api.ErrNone}, {math.MaxInt, long + long, api.ErrNone},
	} {
		d, err := tieredit.Write(full(), c.id, c.text)
		n, _ := tiers.Get(full(), c.id)
		check(t, "Write", i, d, with([]api.Note{said(n, c.text)}), err, c.err)
	}
	for i, c := range []struct {
		id, from, to int
		err          api.Errno
	}{
		{12, 0, 12, api.OK}, {12, 3, 9, api.OK}, {10, 0, 7, api.ErrTime}, {11, 9, 12, api.OK}, {11, 7, 12, api.ErrOverlap}, {11, 10, 13, api.ErrTime}, {50, 0, 8, api.OK}, {50, 0, 9, api.ErrTime}, {41, 5, 5, api.ErrTime}, {41, 6, 5, api.ErrTime}, {41, math.MinInt, math.MaxInt, api.ErrTime}, {41, -1, 6, api.ErrTime}, {20, 0, 1, api.ErrTime}, {22, 2, 4, api.ErrGap}, {22, 1, 5, api.ErrOverlap}, {60, 0, 0, api.OK}, {60, 1, 2, api.ErrTime}, {90, 0, 8, api.ErrTime}, {13, 0, 1, api.ErrNone}, {0, 0, 0, api.ErrNone}, {math.MinInt, 3, 1, api.ErrNone},
	} {
		d, err := tieredit.Move(full(), c.id, api.Span{From: c.from, To: c.to})
		n, _ := tiers.Get(full(), c.id)
		n.Span = api.Span{From: c.from, To: c.to}
		check(t, "Move", i, d, with([]api.Note{n}), err, c.err)
	}
}

// P13.4
func TestCut(t *testing.T) {
	for i, c := range []struct {
		id, at, next int
		moved        []api.Note
		err          api.Errno
	}{
		{12, 4, 100, []api.Note{timed(12, sample.Other, 0, 3, 4), timed(100, sample.Other, 0, 4, 9)}, api.OK}, {12, 8, 1, []api.Note{timed(12, sample.Other, 0, 3, 8), timed(1, sample.Other, 0, 8, 9)}, api.OK},
		{11, 9, 15, []api.Note{said(timed(11, sample.Text, 0, 8, 9), "mi"), timed(15, sample.Text, 0, 9, 10)}, api.OK},
		// Aligned children behind the cut go with the new note; all others stay, such as the free translation and morphemes.
		{10, 5, 15, []api.Note{said(timed(10, sample.Text, 0, 0, 5), "ba"), timed(15, sample.Text, 0, 5, 8), timed(21, sample.Part, 15, 5, 8)}, api.OK}, {50, 2, 15, []api.Note{said(timed(50, sample.Word, 10, 1, 2), "w"), timed(15, sample.Word, 10, 2, 4)}, api.OK}, {21, 6, api.MaxNum, []api.Note{timed(21, sample.Part, 10, 5, 6), timed(api.MaxNum, sample.Part, 10, 6, 8), timed(33, sample.Sub, api.MaxNum, 6, 8)}, api.OK}, {33, 7, 34, []api.Note{timed(33, sample.Sub, 21, 6, 7), timed(34, sample.Sub, 21, 7, 8)}, api.OK}, {22, 3, 23, []api.Note{timed(22, sample.Part, 10, 2, 3), timed(23, sample.Part, 10, 3, 5)}, api.OK},
		// The errors, in their order.
		{13, 4, 10, nil, api.ErrNone}, {0, 4, 100, nil, api.ErrNone}, {-1, 0, 0, nil, api.ErrNone}, {100, 4, 100, nil, api.ErrNone},
		{60, 0, 10, nil, api.ErrKind}, {90, 0, 10, nil, api.ErrKind}, {80, 5, 0, nil, api.ErrKind},
		{10, 0, 11, nil, api.ErrTime}, {10, 8, 11, nil, api.ErrTime}, {10, -1, 11, nil, api.ErrTime}, {10, 9, 100, nil, api.ErrTime}, {12, 3, 100, nil, api.ErrTime}, {12, math.MaxInt, 100, nil, api.ErrTime}, {12, math.MinInt, 100, nil, api.ErrTime}, {40, 1, 100, nil, api.ErrTime},
		{10, 3, 10, nil, api.ErrTwice}, {10, 3, 11, nil, api.ErrTwice}, {12, 4, 90, nil, api.ErrTwice},
		{10, 3, 0, nil, api.ErrOverlap}, {10, 2, 100, nil, api.ErrOverlap}, {10, 4, 100, nil, api.ErrOverlap}, {10, 1, 100, nil, api.ErrOverlap}, {10, 7, 100, nil, api.ErrOverlap}, {21, 7, 100, nil, api.ErrOverlap},
		{12, 4, 0, nil, api.ErrRange}, {10, 5, 0, nil, api.ErrRange}, {10, 5, -7, nil, api.ErrRange}, {10, 5, api.MaxNum + 1, nil, api.ErrRange}, {10, 5, math.MaxInt, nil, api.ErrRange},
	} {
		d, err := tieredit.Cut(full(), c.id, c.at, c.next)
		check(t, "Cut", i, d, with(c.moved), err, c.err)
	}
	many := sample.Of()
	many.Rec.Length = 1000
	for i := range api.MaxNotes {
		many.Notes = append(many.Notes, timed(i+1, sample.Other, 0, 2*i, 2*i+2))
	}
	if d, err := tieredit.Cut(many, 7, 13, 500); err != api.ErrFull || len(d.Notes) != 0 {
		t.Error("Cut in a full document:", err)
	}
}

// P13.5
func TestGlue(t *testing.T) {
	parts := []api.Note{timed(23, sample.Part, 11, 8, 10), plain(91, sample.Free, 11, 0)}
	words := []api.Note{timed(51, sample.Word, 10, 5, 6), plain(63, sample.Morph, 51, 1), plain(64, sample.Morph, 51, 0), plain(71, sample.Gloss, 64, 0), timed(52, sample.Word, 10, 6, 8)}
	spoken, last := slices.Clone(words), slices.Clone(words)
	spoken[0].Text, last[4].Text = "x", "x"
	for i, c := range []struct {
		more []api.Note // of the document
		a, b int
		want []api.Note
		gone []int
		err  api.Errno
	}{
		{nil, 10, 11, []api.Note{said(timed(10, sample.Text, 0, 0, 10), "ba mi")}, nil, api.ErrGap},
		{parts, 10, 11, nil, nil, api.ErrTwice}, {parts[:1], 10, 11, []api.Note{said(timed(10, sample.Text, 0, 0, 10), "ba mi"), timed(23, sample.Part, 10, 8, 10)}, []int{11}, api.OK},
		{nil, 20, 22, nil, nil, api.ErrGap}, {nil, 22, 21, nil, nil, api.ErrGap}, {nil, 31, 30, []api.Note{timed(31, sample.Sub, 20, 0, 2), timed(40, sample.Inner, 31, 1, 2)}, []int{30}, api.OK}, {nil, 32, 33, []api.Note{timed(32, sample.Sub, 21, 5, 8)}, []int{33}, api.OK},
		// A word with a space before the next one ends where that ends; its morphemes come first.
		{words, 50, 51, []api.Note{said(timed(50, sample.Word, 10, 1, 6), "w"), plain(64, sample.Morph, 50, 3), plain(63, sample.Morph, 50, 4)}, []int{51}, api.OK}, {words, 51, 52, []api.Note{timed(51, sample.Word, 10, 5, 8)}, []int{52}, api.OK}, {spoken, 50, 51, []api.Note{said(timed(50, sample.Word, 10, 1, 6), "w x"), plain(64, sample.Morph, 50, 3), plain(63, sample.Morph, 50, 4)}, []int{51}, api.OK}, {spoken, 51, 52, []api.Note{said(timed(51, sample.Word, 10, 5, 8), "x")}, []int{52}, api.OK}, {last, 51, 52, []api.Note{said(timed(51, sample.Word, 10, 5, 8), "x")}, []int{52}, api.OK},
		// In a series, those behind move.
		{nil, 61, 60, []api.Note{plain(61, sample.Morph, 50, 0), plain(62, sample.Morph, 50, 1), said(plain(70, sample.Gloss, 61, 0), "dog")}, []int{60}, api.OK}, {nil, 60, 62, []api.Note{plain(60, sample.Morph, 50, 1)}, []int{62}, api.OK}, {nil, 80, 81, []api.Note{plain(80, sample.Deep, 70, 0)}, []int{81}, api.OK}, {[]api.Note{plain(71, sample.Gloss, 61, 0)}, 61, 60, nil, nil, api.ErrTwice},
		// The errors, in their order.
		{nil, 10, 13, nil, nil, api.ErrNone}, {nil, 13, 10, nil, nil, api.ErrNone}, {nil, 0, 0, nil, nil, api.ErrNone}, {nil, -1, 90, nil, nil, api.ErrNone}, {nil, 90, math.MaxInt, nil, nil, api.ErrNone},
		{nil, 10, 12, nil, nil, api.ErrKind}, {nil, 10, 20, nil, nil, api.ErrKind}, {nil, 60, 80, nil, nil, api.ErrKind}, {nil, 90, 90, nil, nil, api.ErrKind}, {parts, 90, 91, nil, nil, api.ErrKind}, {nil, 70, 90, nil, nil, api.ErrKind},
		{nil, 11, 10, nil, nil, api.ErrOrder}, {nil, 10, 10, nil, nil, api.ErrOrder}, {nil, 60, 61, nil, nil, api.ErrOrder}, {nil, 61, 62, nil, nil, api.ErrOrder}, {nil, 20, 21, nil, nil, api.ErrOrder}, {nil, 30, 32, nil, nil, api.ErrOrder}, {words, 62, 64, nil, nil, api.ErrOrder}, {words, 50, 52, nil, nil, api.ErrOrder}, {parts, 21, 23, nil, nil, api.ErrOrder}, {nil, 81, 80, nil, nil, api.ErrOrder},
	} {
		before := with(c.more)
		if err := tiers.Check(before); err != api.OK {
			t.Fatal(i, err)
		}
		d, err := tieredit.Glue(before, c.a, c.b)
		for _, n := range before.Notes {
			if !slices.ContainsFunc(c.want, func(m api.Note) bool { return m.Id == n.Id }) {
				c.want = append(c.want, n)
			}
		}
		want := with(c.want)
		want.Notes = slices.DeleteFunc(want.Notes, func(n api.Note) bool { return slices.Contains(c.gone, n.Id) })
		check(t, "Glue", i, d, want, err, c.err)
	}
	long, half := strings.Repeat("a", api.MaxText), strings.Repeat("a", api.MaxText/2)
	for _, c := range []struct {
		a, b string
		err  api.Errno
	}{{long, "", api.OK}, {"", long, api.OK}, {long, "a", api.ErrLong}, {half, half, api.ErrLong}, {half[1:], half, api.OK}} {
		d, err := tieredit.Glue(sample.Of(said(timed(1, sample.Other, 0, 0, 1), c.a), said(timed(2, sample.Other, 0, 5, 7), c.b)), 1, 2)
		if err != c.err || err == api.OK && (len(d.Notes) != 1 || d.Notes[0].Span != api.Span{From: 0, To: 7}) {
			t.Errorf("Glue of texts of %d and %d bytes: %v, %d", len(c.a), len(c.b), d.Notes, err)
		}
	}
}

// get returns a pointer to the note of an Id.
func get(d *api.Doc, id int) *api.Note {
	return &d.Notes[slices.IndexFunc(d.Notes, func(n api.Note) bool { return n.Id == id })]
}

func copied(d api.Doc) api.Doc {
	d.Notes = slices.Clone(d.Notes)
	return d
}

// isAbove reports whether a note of d is above n.
func isAbove(d api.Doc, id int, n api.Note) bool {
	for n.Parent != 0 {
		if n.Parent == id {
			return true
		}
		n, _ = tiers.Get(d, n.Parent)
	}
	return false
}

// extend is that of the definition: of the end, or of the beginning.
func extend(d *api.Doc, id, time int, end bool) {
	n := get(d, id)
	if end {
		n.Span.To = time
	} else {
		n.Span.From = time
	}
	for tier, x := range d.Tiers {
		if kids := tiers.Kids(*d, id, tier); x.Kind == api.TierParts && len(kids) > 0 {
			if end {
				extend(d, kids[len(kids)-1], time, end)
			} else {
				extend(d, kids[0], time, end)
			}
		}
	}
}

// dropped returns a document without a note, from the definition.
func dropped(d api.Doc, id int) api.Doc {
	e, n := copied(d), *get(&d, id)
	if l := tiers.Kids(d, n.Parent, n.Tier); d.Tiers[n.Tier].Kind == api.TierParts && len(l) > 1 {
		if i := slices.Index(l, id); i > 0 {
			extend(&e, l[i-1], n.Span.To, true)
		} else {
			extend(&e, l[1], n.Span.From, false)
		}
	}
	var left []api.Note
	for _, m := range e.Notes {
		if m.Id == id || isAbove(d, id, m) {
			continue
		}
		if d.Tiers[n.Tier].Kind == api.TierSeries && m.Tier == n.Tier && m.Parent == n.Parent && m.Rank > n.Rank {
			m.Rank--
		}
		left = append(left, m)
	}
	e.Notes = left
	return e
}

// some returns a note of a document.
func some(random *rand.Rand, d api.Doc) api.Note {
	if len(d.Notes) == 0 {
		return api.Note{}
	}
	return d.Notes[random.Intn(len(d.Notes))]
}

// P13.2, P13.6
func TestManyDrops(t *testing.T) {
	random := rand.New(rand.NewSource(13))
	for range 2000 {
		d := sample.Doc(random.Intn)
		for range 3 {
			n := some(random, d)
			if n.Id == 0 {
				break
			}
			e, gone, err := tieredit.Drop(d, n.Id)
			if err != api.OK || !tiers.Same(e, dropped(d, n.Id)) || tiers.Check(e) != api.OK || !slices.Contains(gone, n.Id) || !slices.IsSorted(gone) {
				t.Fatalf("Drop of %d in %v: %v, %v, %d", n.Id, d, e, gone, err)
			}
			for _, m := range d.Notes {
				left, ok := tiers.Get(e, m.Id)
				if ok == slices.Contains(gone, m.Id) || ok && (left.Tier != m.Tier || left.Parent != m.Parent || left.Text != m.Text) {
					t.Fatalf("Drop of %d in %v: %v is now %v", n.Id, d, m, left)
				}
			}
			d = e
		}
	}
}

// P13.1, P13.6: what Add accepts is right, and Drop takes it out again.
func TestManyAdds(t *testing.T) {
	random := rand.New(rand.NewSource(14))
	count := map[api.Errno]int{}
	for range 20000 {
		d := sample.Doc(random.Intn)
		n := api.Note{Id: 2001 + random.Intn(2), Tier: random.Intn(11), Text: "new"}
		if random.Intn(9) == 0 {
			n.Id = some(random, d).Id + 1
		}
		n.Parent = some(random, d).Id
		if x := d.Tiers[n.Tier]; x.Kind == api.TierRoot {
			n.Parent = 0
		} else if l := tiers.Of(d, x.Parent); len(l) > 0 && random.Intn(9) > 0 {
			n.Parent = l[random.Intn(len(l))]
		}
		if kind := d.Tiers[n.Tier].Kind; kind == api.TierSeries {
			n.Rank = random.Intn(4)
		} else if kind != api.TierLabel {
			n.Span.From = random.Intn(12)
			n.Span.To = n.Span.From + 1 + random.Intn(2)
		}
		e, err := tieredit.Add(d, n)
		count[err]++
		if err != api.OK {
			continue
		}
		if got, ok := tiers.Get(e, n.Id); !ok || got != n || tiers.Check(e) != api.OK || len(e.Notes) != len(d.Notes)+1 {
			t.Fatalf("Add of %v to %v: %v", n, d, e)
		}
		back, gone, err := tieredit.Drop(e, n.Id)
		if d.Tiers[n.Tier].Kind != api.TierParts && (err != api.OK || len(gone) != 1 || !tiers.Same(back, d)) {
			t.Fatalf("Drop of %v after Add to %v: %v, %d", n, d, back, err)
		}
	}
	for _, err := range []api.Errno{api.OK, api.ErrRange, api.ErrTwice, api.ErrParent, api.ErrTime, api.ErrOverlap, api.ErrGap} {
		if count[err] < 50 {
			t.Errorf("only %d times the error %d", count[err], err)
		}
	}
}

// P13.3, P13.6: Write and Move change one field of one note, or nothing.
func TestManyChanges(t *testing.T) {
	random := rand.New(rand.NewSource(15))
	for range 5000 {
		d := sample.Doc(random.Intn)
		n := some(random, d)
		if n.Id == 0 {
			continue
		}
		s := api.Span{From: n.Span.From + random.Intn(3) - 1, To: n.Span.To + random.Intn(3) - 1}
		written, moved := copied(d), copied(d)
		get(&written, n.Id).Text = "x"
		get(&moved, n.Id).Span = s
		if e, err := tieredit.Write(d, n.Id, "x"); err != api.OK || !tiers.Same(e, written) {
			t.Fatalf("Write of %v in %v: %v, %d", n, d, e, err)
		}
		wantErr := tiers.Check(moved)
		if wantErr != api.OK {
			moved = api.Doc{}
		}
		if e, err := tieredit.Move(d, n.Id, s); err != wantErr || !tiers.Same(e, moved) {
			t.Fatalf("Move of %v to %v in %v: %v, %d, want %d", n, s, d, e, err, wantErr)
		}
	}
}

// cut returns a document with a note that was cut, from the definition.
func cut(d api.Doc, n api.Note, at, next int) (api.Doc, api.Errno) {
	e := copied(d)
	get(&e, n.Id).Span.To = at
	for i, m := range e.Notes {
		if m.Parent != n.Id || d.Tiers[m.Tier].Kind > api.TierWithin {
			continue
		}
		if m.Span.From < at && m.Span.To > at {
			return api.Doc{}, api.ErrOverlap
		}
		if m.Span.From >= at {
			e.Notes[i].Parent = next
		}
	}
	e.Notes = append(e.Notes, timed(next, n.Tier, n.Parent, at, n.Span.To))
	slices.SortFunc(e.Notes, func(a, b api.Note) int { return cmp.Compare(a.Id, b.Id) })
	return e, tiers.Check(e)
}

// P13.4, P13.6: Glue takes back what Cut did.
func TestManyCuts(t *testing.T) {
	random := rand.New(rand.NewSource(16))
	cuts := 0
	for range 20000 {
		d := sample.Doc(random.Intn)
		n, next := some(random, d), 1+random.Intn(2100)
		if d.Tiers[n.Tier].Kind > api.TierWithin || n.Span.To-n.Span.From < 2 || slices.ContainsFunc(d.Notes, func(m api.Note) bool { return m.Id == next }) {
			continue
		}
		at := n.Span.From + 1 + random.Intn(n.Span.To-n.Span.From-1)
		want, wantErr := cut(d, n, at, next)
		e, err := tieredit.Cut(d, n.Id, at, next)
		if err != wantErr || err == api.OK && !tiers.Same(e, want) {
			t.Fatalf("Cut of %v at %d in %v: %v, %d, want %v, %d", n, at, d, e, err, want, wantErr)
		}
		if err != api.OK {
			continue
		}
		cuts++
		if back, err := tieredit.Glue(e, n.Id, next); err != api.OK || !tiers.Same(back, d) {
			t.Fatalf("Glue after Cut of %v at %d in %v: %v, %d", n, at, d, back, err)
		}
	}
	if cuts < 1000 {
		t.Error("only", cuts, "cuts")
	}
}

// glued returns a document in which b was joined to a, from the definition.
func glued(d api.Doc, a, b api.Note) (api.Doc, api.Errno) {
	e := copied(d)
	n := get(&e, a.Id)
	n.Text = strings.TrimSpace(a.Text + " " + b.Text)
	if d.Tiers[a.Tier].Kind <= api.TierWithin {
		n.Span.To = b.Span.To
	}
	for tier := range d.Tiers {
		for i, id := range tiers.Kids(d, b.Id, tier) {
			m := get(&e, id)
			m.Parent = a.Id
			if d.Tiers[tier].Kind == api.TierSeries {
				m.Rank = len(tiers.Kids(d, a.Id, tier)) + i
			}
		}
	}
	if l := tiers.Kids(d, a.Parent, a.Tier); d.Tiers[a.Tier].Kind == api.TierSeries {
		for i, id := range slices.DeleteFunc(l, func(id int) bool { return id == b.Id }) {
			get(&e, id).Rank = i
		}
	}
	e.Notes = slices.DeleteFunc(e.Notes, func(m api.Note) bool { return m.Id == b.Id })
	return e, tiers.Check(e)
}

// P13.5, P13.6
func TestManyGlues(t *testing.T) {
	random := rand.New(rand.NewSource(17))
	count := map[api.Errno]int{}
	for range 10000 {
		d := sample.Doc(random.Intn)
		a := some(random, d)
		for _, b := range d.Notes {
			wantErr := api.OK
			siblings := tiers.Kids(d, a.Parent, a.Tier)
			at := slices.Index(siblings, b.Id)
			var want api.Doc
			switch {
			case a.Tier != b.Tier || d.Tiers[a.Tier].Kind == api.TierLabel:
				wantErr = api.ErrKind
			case at < 1 || siblings[at-1] != a.Id:
				wantErr = api.ErrOrder
			default:
				want, wantErr = glued(d, a, b)
			}
			e, err := tieredit.Glue(d, a.Id, b.Id)
			if err != wantErr || err == api.OK && !tiers.Same(e, want) || err != api.OK && !tiers.Same(e, api.Doc{}) {
				t.Fatalf("Glue of %v and %v in %v: %v, %d, want %v, %d", a, b, d, e, err, want, wantErr)
			}
			count[err]++
		}
	}
	for _, err := range []api.Errno{api.OK, api.ErrGap, api.ErrTwice, api.ErrKind, api.ErrOrder} {
		if count[err] < 100 {
			t.Errorf("only %d times the error %d", count[err], err)
		}
	}
}

// R5: results are new memory, and arguments stay as they are.
func TestMemory(t *testing.T) {
	word := []api.Note{timed(51, sample.Word, 10, 5, 6)}
	d, kept := with(word), with(word)
	for i, call := range []func() api.Doc{
		func() api.Doc { e, _ := tieredit.Add(d, plain(1, sample.Morph, 50, 0)); return e },
		func() api.Doc { e, _, _ := tieredit.Drop(d, 22); return e },
		func() api.Doc { e, _, _ := tieredit.Drop(d, 61); return e },
		func() api.Doc { e, _ := tieredit.Write(d, 10, "x"); return e },
		func() api.Doc { e, _ := tieredit.Move(d, 12, api.Span{From: 0, To: 1}); return e },
		func() api.Doc { e, _ := tieredit.Cut(d, 10, 5, 1); return e },
		func() api.Doc { e, _ := tieredit.Glue(d, 50, 51); return e },
		func() api.Doc { e, _ := tieredit.Glue(d, 61, 60); return e },
	} {
		e := call()
		if len(e.Notes) == 0 || !tiers.Same(d, kept) {
			t.Fatal(i, e, d)
		}
		clear(e.Rec.Speakers)
		clear(e.Tiers)
		clear(e.Notes)
		if !tiers.Same(d, kept) || tiers.Same(call(), e) {
			t.Error("call", i, "shares memory")
		}
	}
}

// The functions end for documents that are not right, too.
func TestDocumentsThatAreNotRight(t *testing.T) {
	cycle := api.Doc{Tiers: []api.Tier{{Kind: api.TierParts, Parent: 0}, {Kind: api.TierParts, Parent: 2}, {Kind: api.TierParts, Parent: 1}}, Notes: []api.Note{plain(5, 0, 5, 0), plain(5, 0, 5, 0), plain(3, 1, 4, -1), plain(4, 2, 3, 9), plain(0, 0, 0, 0), plain(7, 9, 7, 0), plain(-2, -1, 7, 0)}}
	none := api.Doc{Notes: cycle.Notes}
	for _, d := range []api.Doc{cycle, none} {
		for _, a := range []int{-2, 0, 3, 4, 5, 6, 7} {
			tieredit.Drop(d, a)
			_, written := tieredit.Write(d, a, "")
			_, cut := tieredit.Cut(d, a, 1, 9)
			if written == api.OK || cut == api.OK {
				t.Error("a right document of", a)
			}
			for b := range 8 {
				tieredit.Glue(d, a, b)
				tieredit.Add(d, plain(8, a, b, 0))
			}
		}
	}
}
