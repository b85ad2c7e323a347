package redact_test

import (
	"math"
	"math/rand"
	"slices"
	"testing"

	"langdoc/align"
	"langdoc/api"
	"langdoc/redact"
	"langdoc/sample"
	"langdoc/span"
	"langdoc/tiers"
	"langdoc/tiertype"
)

// timed makes notes with a span, plain those without.
var timed, plain = sample.Timed, sample.Plain

// full returns a right document: a text from 0 to 8, which is divided into parts and subparts and has words, and one from 9 to 12.
func full() api.Doc {
	return sample.Of(
		plain(1, sample.Deep, 42, 0, "d"), plain(2, sample.Gloss, 43, 0, "PL"), timed(5, sample.Text, 0, 9, 12, "second"), timed(9, sample.Text, 0, 0, 8, "first"),
		timed(10, sample.Part, 9, 0, 4, "p"), timed(11, sample.Part, 9, 4, 8, "q"), timed(12, sample.Sub, 10, 0, 1, "r"), timed(13, sample.Sub, 10, 1, 4, "s"), timed(14, sample.Sub, 11, 4, 8, "t"), timed(15, sample.Inner, 13, 2, 3, "u"), timed(16, sample.Inner, 13, 3, 4, "v"),
		timed(20, sample.Word, 9, 5, 7, "mi"), timed(21, sample.Word, 9, 1, 4, "ba"), timed(23, sample.Word, 5, 10, 12, "tu"),
		plain(40, sample.Morph, 20, 1, "i"), plain(41, sample.Morph, 20, 0, "m"), plain(42, sample.Gloss, 44, 0, "x"), plain(43, sample.Morph, 21, 0, ""), plain(44, sample.Morph, 23, 0, "tu"),
		timed(50, sample.Other, 0, 3, 9, "noise"), plain(60, sample.Free, 9, 0, "one"), plain(61, sample.Free, 5, 0, "two"),
	)
}

func TestExample(t *testing.T) {
	if err := tiers.Check(full()); err != api.OK {
		t.Error("the document of the tests is not right:", err)
	}
	// The example of the chapter.
	d := api.Doc{Rec: api.Recording{Id: 1, Length: 900}, Tiers: tiertype.Standard(), Notes: []api.Note{timed(1, 0, 0, 0, 900, "ba mi"), timed(2, 1, 1, 0, 300, "ba"), timed(3, 1, 1, 400, 900, "mi")}}
	v := redact.View(d, []api.Span{{To: 300}})
	if !slices.Equal(v.Notes, []api.Note{timed(1, 0, 0, 0, 900, ""), d.Notes[1]}) {
		t.Error(v)
	}
}

func ids(d api.Doc) []int {
	var l []int
	for _, n := range d.Notes {
		l = append(l, n.Id)
	}
	return l
}

// spans returns spans from pairs of times.
func spans(times ...int) []api.Span {
	var l []api.Span
	for pair := range slices.Chunk(times, 2) {
		l = append(l, api.Span{From: pair[0], To: pair[1]})
	}
	return l
}

// P46.1, P46.2, P46.3
func TestSeenAndKept(t *testing.T) {
	all := ids(full())
	for i, c := range []struct{ times, seen, kept []int }{
		{nil, nil, nil}, {[]int{0, 12}, all, all}, {[]int{0, api.MaxMs}, all, all}, {[]int{5, 12, 0, 3, 2, 6}, all, all}, {[]int{0, 8, 8, 12}, all, all},
		// Texts as wholes.
		{[]int{0, 8}, []int{2, 9, 10, 11, 12, 13, 14, 15, 16, 20, 21, 40, 41, 43, 60}, []int{2, 9, 10, 11, 12, 13, 14, 15, 16, 20, 21, 40, 41, 43, 60}}, {[]int{8, 12}, []int{1, 5, 23, 42, 44, 61}, []int{1, 5, 23, 42, 44, 61}}, {[]int{10, 12}, []int{1, 23, 42, 44}, []int{1, 5, 23, 42, 44}}, {[]int{3, 9}, []int{11, 14, 16, 20, 40, 41, 50}, []int{9, 10, 11, 12, 13, 14, 16, 20, 40, 41, 50}},
		// With a part, its siblings are kept, but not what is below these.
		{[]int{4, 8}, []int{11, 14, 20, 40, 41}, []int{9, 10, 11, 14, 20, 40, 41}}, {[]int{0, 1}, []int{12}, []int{9, 10, 11, 12, 13}}, {[]int{2, 3}, []int{15}, []int{9, 10, 11, 12, 13, 15}}, {[]int{1, 4}, []int{2, 13, 15, 16, 21, 43}, []int{2, 9, 10, 11, 12, 13, 15, 16, 21, 43}}, {[]int{4, 8, 0, 1, 2, 3}, []int{11, 12, 14, 15, 20, 40, 41}, []int{9, 10, 11, 12, 13, 14, 15, 20, 40, 41}},
		// Words and what is below them; a span that is one millisecond too short.
		{[]int{5, 7}, []int{20, 40, 41}, []int{9, 20, 40, 41}}, {[]int{5, 6}, nil, nil}, {[]int{6, 7}, nil, nil}, {[]int{1, 3}, []int{15}, []int{9, 10, 11, 12, 13, 15}}, {[]int{0, 7}, []int{2, 10, 12, 13, 15, 16, 20, 21, 40, 41, 43}, []int{2, 9, 10, 11, 12, 13, 15, 16, 20, 21, 40, 41, 43}}, {[]int{8, 9}, nil, nil}, {[]int{9, 11}, nil, nil},
		// Spans that touch are one; those that are not right are ignored.
		{[]int{6, 7, 5, 6}, []int{20, 40, 41}, []int{9, 20, 40, 41}}, {[]int{12, 0}, nil, nil}, {[]int{0, api.MaxMs + 1}, nil, nil}, {[]int{-1, 12}, nil, nil}, {[]int{5, 5, math.MinInt, math.MaxInt, 5, 7, 9, 8}, []int{20, 40, 41}, []int{9, 20, 40, 41}}, {[]int{12, 20}, nil, nil},
	} {
		d, l := full(), spans(c.times...)
		if got := redact.Kept(d, l); !slices.Equal(got, c.kept) {
			t.Errorf("%d: Kept: %v, want %v", i, got, c.kept)
		}
		var hidden []int
		for _, id := range all {
			if !slices.Contains(c.seen, id) {
				hidden = append(hidden, id)
			}
		}
		if got := redact.Hidden(d, l); !slices.Equal(got, hidden) {
			t.Errorf("%d: Hidden: %v, want %v", i, got, hidden)
		}
		for _, id := range append(all, 0, -1, 3, 62, math.MinInt, math.MaxInt) {
			if redact.Seen(d, l, id) != slices.Contains(c.seen, id) {
				t.Errorf("%d: Seen of %d", i, id)
			}
		}
		if want := view(d, c.seen, c.kept); !tiers.Same(redact.View(d, l), want) || !redact.Clean(want, l) {
			t.Errorf("%d: View: %v", i, redact.View(d, l))
		}
	}
}

// view returns a document with the notes that are kept and the texts of those that are seen.
func view(d api.Doc, seen, kept []int) api.Doc {
	v := api.Doc{Rec: d.Rec, Tiers: d.Tiers}
	for _, n := range d.Notes {
		if !slices.Contains(seen, n.Id) {
			n.Text = ""
		}
		if slices.Contains(kept, n.Id) {
			v.Notes = append(v.Notes, n)
		}
	}
	return v
}

// P46.3
func TestClean(t *testing.T) {
	empty := full()
	for i := range empty.Notes {
		empty.Notes[i].Text = ""
	}
	one := func(id int) api.Doc {
		d := full()
		for i, n := range d.Notes {
			if n.Id != id {
				d.Notes[i].Text = ""
			}
		}
		return d
	}
	for i, c := range []struct {
		d    api.Doc
		l    []api.Span
		want bool
	}{
		{full(), spans(0, 12), true}, {full(), spans(0, 11), false}, {full(), spans(1, 12), false}, {full(), nil, false}, {empty, nil, true}, {empty, spans(5, 7), true}, {sample.Of(), nil, true}, {sample.Of(), spans(0, 12), true},
		{one(20), spans(5, 7), true}, {one(20), spans(5, 6), false}, {one(40), spans(5, 7), true}, {one(40), spans(6, 7), false}, {one(9), spans(0, 8), true}, {one(9), spans(1, 8), false}, {one(43), nil, true}, {one(2), nil, false}, {one(2), spans(1, 4), true}, {one(60), spans(5, 7), false}, {one(61), spans(9, 12), true}, {one(1), spans(10, 12), true},
	} {
		if redact.Clean(c.d, c.l) != c.want {
			t.Errorf("%d: Clean", i)
		}
	}
}

// seen and kept are the notes that are seen and kept, from the definitions.
func seen(d api.Doc, l []api.Span) []int {
	var out []int
	for _, n := range d.Notes {
		if s, _ := align.Where(d, n.Id); span.Covers(l, s) {
			out = append(out, n.Id)
		}
	}
	return out
}

func kept(d api.Doc, seen []int) []int {
	in := map[int]bool{}
	for _, id := range seen {
		in[id] = true
	}
	for more := true; more; {
		more = false
		for _, n := range d.Notes {
			if in[n.Id] {
				continue
			}
			for _, m := range d.Notes {
				sibling := m.Tier == n.Tier && m.Parent == n.Parent && d.Tiers[n.Tier].Kind == api.TierParts
				if in[m.Id] && (sibling || slices.Contains(align.Chain(d, m.Id), n.Id)) {
					in[n.Id], more = true, true
				}
			}
		}
	}
	var out []int
	for _, n := range d.Notes {
		if in[n.Id] {
			out = append(out, n.Id)
		}
	}
	return out
}

// times returns some spans of the first 14 milliseconds, of which one may not be right.
func times(random *rand.Rand) []api.Span {
	var l []api.Span
	for range random.Intn(4) {
		from := random.Intn(12)
		l = append(l, api.Span{From: from, To: from + random.Intn(9)})
	}
	return l
}

// P46.1 to P46.4: of many documents.
func TestManyDocuments(t *testing.T) {
	random := rand.New(rand.NewSource(46))
	counts := map[string]int{}
	for range 1000 {
		d, l := sample.Doc(random.Intn), times(random)
		s := seen(d, l)
		k := kept(d, s)
		v := redact.View(d, l)
		if !slices.Equal(redact.Kept(d, l), k) || !tiers.Same(v, view(d, s, k)) || redact.Clean(d, l) != tiers.Same(view(d, s, ids(d)), d) {
			t.Fatalf("View of %v with %v: %v, want %v", d, l, v, view(d, s, k))
		}
		if err := tiers.Check(v); err != api.OK || !redact.Clean(v, l) || !tiers.Same(redact.View(v, l), v) {
			t.Fatalf("View of %v with %v: %v, %d", d, l, v, err)
		}
		if hidden := redact.Hidden(d, l); len(hidden)+len(s) != len(d.Notes) || slices.ContainsFunc(hidden, func(id int) bool { return slices.Contains(s, id) }) || !slices.IsSorted(hidden) {
			t.Fatalf("Hidden of %v with %v: %v", d, l, hidden)
		}
		for _, id := range s {
			n, _ := tiers.Get(d, id)
			if m, ok := tiers.Get(v, id); !ok || m != n || !slices.Equal(align.Chain(v, id), align.Chain(d, id)) || !redact.Seen(d, l, id) {
				t.Fatalf("the note %d of %v with %v: %v", id, d, l, m)
			}
		}
		checkMore(t, d, l, times(random))
		switch {
		case len(k) > len(s):
			counts["kept and not seen"]++
		case len(s) > 0 && len(s) < len(d.Notes):
			counts["seen"]++
		}
	}
	if counts["kept and not seen"] < 100 || counts["seen"] < 30 {
		t.Error(counts)
	}
}

// checkMore checks View with some times against View with further ones, with all, and with none.
func checkMore(t *testing.T, d api.Doc, l, further []api.Span) {
	few, more := redact.View(d, l), redact.View(d, append(slices.Clone(further), l...))
	if !tiers.Same(redact.View(more, l), few) {
		t.Fatalf("View of %v with %v: %v, of what there is with %v too: %v", d, l, few, further, redact.View(more, l))
	}
	for _, n := range few.Notes {
		if m, ok := tiers.Get(more, n.Id); !ok || n.Text != "" && n.Text != m.Text {
			t.Fatalf("View of %v with %v: %v, and with %v: %v", d, l, few, further, more)
		}
	}
	if !tiers.Same(redact.View(d, spans(0, 5, 5, 12)), d) || len(redact.View(d, nil).Notes) != 0 || !redact.Clean(d, spans(0, d.Rec.Length)) {
		t.Fatalf("View of %v with all and no times", d)
	}
}

// The largest documents and lists do not take long.
func TestLargest(t *testing.T) {
	d := api.Doc{Rec: api.Recording{Id: 1, Length: api.MaxMs}, Tiers: []api.Tier{{Name: "a", Parent: -1}, {Name: "b", Kind: api.TierParts}}, Notes: []api.Note{timed(1, 0, 0, 0, api.MaxNotes-1, "")}}
	var l []api.Span
	for i := range api.MaxNotes - 1 {
		d.Notes = append(d.Notes, timed(i+2, 1, 1, i, i+1, "x"))
	}
	for i := range 1000 {
		l = append(l, api.Span{From: 2 * i, To: 2*i + 1})
	}
	if tiers.Check(d) != api.OK || len(redact.Kept(d, l)) != api.MaxNotes || len(redact.Hidden(d, l)) != api.MaxNotes/2 {
		t.Error(len(redact.Kept(d, l)), len(redact.Hidden(d, l)))
	}
}

// R5: results are new memory, and arguments stay as they are.
func TestMemory(t *testing.T) {
	d, l := full(), spans(5, 7, 1, 4, 4, 5)
	v := redact.View(d, l)
	clear(v.Notes)
	clear(v.Tiers)
	clear(v.Rec.Speakers)
	clear(redact.Kept(d, l))
	clear(redact.Hidden(d, l))
	redact.Clean(d, l)
	if !tiers.Same(d, full()) || !slices.Equal(l, spans(5, 7, 1, 4, 4, 5)) {
		t.Error(d, l)
	}
}

// The functions end for documents that are not right, too.
func TestDocumentsThatAreNotRight(t *testing.T) {
	d := api.Doc{Tiers: []api.Tier{{Kind: api.TierParts, Parent: 1}, {Kind: api.TierParts, Parent: 0}}, Notes: []api.Note{timed(1, 0, 1, 0, 5, "a"), timed(2, 1, 3, 0, 5, "b"), timed(3, 0, 2, 0, 5, "c"), timed(4, 9, 0, 0, 5, ""), timed(4, -1, 3, 0, 5, ""), timed(0, 0, 7, 0, 5, "")}}
	for _, d := range []api.Doc{d, {Notes: d.Notes}} {
		for id := -1; id < 6; id++ {
			redact.Seen(d, spans(0, 9), id)
		}
		redact.Kept(d, spans(0, 9))
		redact.Hidden(d, spans(0, 9))
		redact.View(d, spans(0, 9))
		redact.Clean(d, spans(0, 9))
	}
}
