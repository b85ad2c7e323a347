package align_test

import (
	"math"
	"math/rand"
	"slices"
	"testing"

	"langdoc/align"
	"langdoc/api"
	"langdoc/sample"
	"langdoc/tiers"
)

// timed makes notes with a span, plain those without.
var timed, plain = sample.Timed, sample.Plain

// full returns a right document: the second text stands before the first one, and parents stand behind their children.
func full() api.Doc {
	return sample.Of(
		plain(1, sample.Deep, 42, 0, "d"), plain(2, sample.Gloss, 43, 0, "PL"), timed(5, sample.Text, 0, 8, 12, "second"), timed(9, sample.Text, 0, 0, 8, "first"),
		timed(20, sample.Word, 9, 5, 7, "mi"), timed(21, sample.Word, 9, 1, 4, "ba"), timed(22, sample.Word, 5, 8, 9, ""), timed(23, sample.Word, 5, 10, 12, "tu"),
		plain(40, sample.Morph, 20, 1, "i"), plain(41, sample.Morph, 20, 0, "m"), plain(42, sample.Gloss, 44, 0, ""), plain(43, sample.Morph, 21, 0, ""), plain(44, sample.Morph, 23, 0, "tu"),
		timed(50, sample.Other, 0, 3, 9, "noise"), plain(60, sample.Free, 9, 0, "one"),
	)
}

func TestExample(t *testing.T) {
	if err := tiers.Check(full()); err != api.OK {
		t.Error("the document of the tests is not right:", err)
	}
}

// noNotes are numbers that are no Ids of notes of full.
var noNotes = []int{0, 3, 61, -1, -9, math.MinInt, math.MaxInt}

// P14.1
func TestChainAndUnder(t *testing.T) {
	d := full()
	for id, c := range map[int]struct{ chain, under []int }{
		5: {[]int{5}, []int{1, 22, 23, 42, 44}}, 9: {[]int{9}, []int{2, 20, 21, 40, 41, 43, 60}}, 50: {[]int{50}, nil}, 20: {[]int{20, 9}, []int{40, 41}}, 21: {[]int{21, 9}, []int{2, 43}}, 23: {[]int{23, 5}, []int{1, 42, 44}}, 43: {[]int{43, 21, 9}, []int{2}}, 42: {[]int{42, 44, 23, 5}, []int{1}}, 2: {[]int{2, 43, 21, 9}, nil}, 1: {[]int{1, 42, 44, 23, 5}, nil}, 60: {[]int{60, 9}, nil},
	} {
		if l := align.Chain(d, id); !slices.Equal(l, c.chain) {
			t.Errorf("Chain of %d: %v", id, l)
		}
		if l := align.Under(d, id); !slices.Equal(l, c.under) {
			t.Errorf("Under of %d: %v", id, l)
		}
	}
	for _, id := range noNotes {
		if len(align.Chain(d, id)) != 0 || len(align.Under(d, id)) != 0 {
			t.Errorf("the note %d", id)
		}
	}
}

// P14.2
func TestWhere(t *testing.T) {
	d := full()
	for id, want := range map[int]api.Span{5: {From: 8, To: 12}, 9: {From: 0, To: 8}, 20: {From: 5, To: 7}, 21: {From: 1, To: 4}, 40: {From: 5, To: 7}, 41: {From: 5, To: 7}, 43: {From: 1, To: 4}, 2: {From: 1, To: 4}, 42: {From: 10, To: 12}, 1: {From: 10, To: 12}, 60: {From: 0, To: 8}, 50: {From: 3, To: 9}} {
		if s, ok := align.Where(d, id); s != want || !ok {
			t.Errorf("Where of %d: %v, %t", id, s, ok)
		}
	}
	for _, id := range noNotes {
		if s, ok := align.Where(d, id); ok || s != (api.Span{}) {
			t.Errorf("Where of %d: %v, %t", id, s, ok)
		}
	}
}

// P14.3
func TestOverAndAt(t *testing.T) {
	d := full()
	for i, c := range []struct {
		tier, from, to int
		want           []int
	}{
		{sample.Text, 0, 12, []int{9, 5}}, {sample.Text, 7, 9, []int{9, 5}}, {sample.Text, 7, 8, []int{9}}, {sample.Text, 8, 9, []int{5}}, {sample.Text, 3, 4, []int{9}}, {sample.Text, 12, 13, nil}, {sample.Text, 0, api.MaxMs, []int{9, 5}},
		{sample.Word, 0, 1, nil}, {sample.Word, 0, 2, []int{21}}, {sample.Word, 3, 6, []int{21, 20}}, {sample.Word, 4, 5, nil}, {sample.Word, 4, 6, []int{20}}, {sample.Word, 2, 3, []int{21}}, {sample.Word, 8, 12, []int{22, 23}}, {sample.Morph, 6, 11, []int{41, 40, 44}}, {sample.Gloss, 0, 12, []int{2, 42}}, {sample.Free, 7, 12, []int{60}}, {sample.Part, 0, 12, nil}, {sample.Other, 8, 12, []int{50}},
		// Spans that are not right, and tiers that do not exist.
		{sample.Text, 5, 5, nil}, {sample.Text, 6, 5, nil}, {sample.Text, -1, 5, nil}, {sample.Text, 0, api.MaxMs + 1, nil}, {sample.Text, math.MinInt, math.MaxInt, nil}, {11, 0, 12, nil}, {-1, 0, 12, nil}, {math.MaxInt, 0, 12, nil}, {math.MinInt, 0, 12, nil},
	} {
		if l := align.Over(d, c.tier, api.Span{From: c.from, To: c.to}); !slices.Equal(l, c.want) {
			t.Errorf("%d: Over: %v, want %v", i, l, c.want)
		}
	}
	for _, c := range [][3]int{
		{sample.Text, 0, 9}, {sample.Text, 7, 9}, {sample.Text, 8, 5}, {sample.Text, 11, 5}, {sample.Text, 12, 0}, {sample.Text, -1, 0}, {sample.Text, math.MaxInt, 0}, {sample.Text, math.MinInt, 0}, {sample.Text, api.MaxMs, 0}, {sample.Word, 0, 0}, {sample.Word, 1, 21}, {sample.Word, 3, 21}, {sample.Word, 4, 0}, {sample.Word, 9, 0}, {sample.Morph, 5, 41}, {sample.Morph, 6, 41}, {sample.Gloss, 10, 42}, {sample.Deep, 11, 1}, {sample.Part, 3, 0}, {11, 3, 0}, {-1, 3, 0}, {math.MaxInt, 3, 0},
	} {
		if id := align.At(d, c[0], c[1]); id != c[2] {
			t.Errorf("At %d in the tier %d: %d, want %d", c[1], c[0], id, c[2])
		}
	}
	// The last millisecond that a recording can have.
	long := sample.Of(timed(7, sample.Other, 0, api.MaxMs-1, api.MaxMs, ""))
	long.Rec.Length = api.MaxMs
	if align.At(long, sample.Other, api.MaxMs-1) != 7 || align.At(long, sample.Other, api.MaxMs) != 0 || align.At(long, sample.Other, api.MaxMs-2) != 0 {
		t.Error("At the end of the longest recording")
	}
}

// P14.4
func TestNext(t *testing.T) {
	d := full()
	for id, want := range map[int]int{9: 5, 5: 0, 50: 0, 21: 20, 20: 0, 22: 23, 23: 0, 41: 40, 40: 0, 43: 0, 44: 0, 2: 0, 42: 0, 60: 0, 1: 0} {
		if next := align.Next(d, id); next != want {
			t.Errorf("Next of %d: %d", id, next)
		}
	}
	for _, id := range noNotes {
		if next := align.Next(d, id); next != 0 {
			t.Errorf("Next of %d: %d", id, next)
		}
	}
}

// P14.5
func TestOrder(t *testing.T) {
	if l := align.Order(full()); !slices.Equal(l, []int{9, 5, 21, 20, 22, 23, 43, 41, 40, 44, 2, 42, 60, 1, 50}) {
		t.Error(l)
	}
	if len(align.Order(sample.Of())) != 0 || len(align.Order(api.Doc{})) != 0 {
		t.Error("no notes")
	}
}

// P14.6
func TestWords(t *testing.T) {
	d := full()
	for i, c := range []struct {
		id, tier int
		want     []string
	}{
		{0, sample.Text, []string{"first", "second"}}, {0, sample.Word, []string{"ba", "mi", "tu"}}, {0, sample.Morph, []string{"m", "i", "tu"}}, {0, sample.Gloss, []string{"PL"}}, {0, sample.Part, nil},
		{9, sample.Word, []string{"ba", "mi"}}, {5, sample.Word, []string{"tu"}}, {9, sample.Text, []string{"first"}}, {9, sample.Morph, []string{"m", "i"}}, {9, sample.Gloss, []string{"PL"}}, {5, sample.Gloss, nil}, {5, sample.Deep, []string{"d"}}, {20, sample.Morph, []string{"m", "i"}}, {20, sample.Word, []string{"mi"}}, {20, sample.Text, nil}, {22, sample.Word, nil}, {50, sample.Word, nil}, {9, sample.Free, []string{"one"}}, {9, sample.Other, nil}, {50, sample.Other, []string{"noise"}},
		{0, 11, nil}, {0, -1, nil}, {9, math.MaxInt, nil}, {3, sample.Word, nil}, {-1, sample.Word, nil}, {math.MinInt, sample.Text, nil},
	} {
		if l := align.Words(d, c.id, c.tier); !slices.Equal(l, c.want) {
			t.Errorf("%d: Words: %v, want %v", i, l, c.want)
		}
	}
}

// chain is that of the definition.
func chain(d api.Doc, id int) []int {
	n, ok := tiers.Get(d, id)
	if !ok {
		return nil
	}
	return append([]int{id}, chain(d, n.Parent)...)
}

// where returns the time of a note, from the definition.
func where(d api.Doc, n api.Note) api.Span {
	if d.Tiers[n.Tier].Kind <= api.TierWithin {
		return n.Span
	}
	parent, _ := tiers.Get(d, n.Parent)
	return where(d, parent)
}

func inside(a, b api.Span) bool {
	return b.From <= a.From && a.To <= b.To
}

// P14.1 to P14.7: the definitions and the laws hold of many documents.
func TestManyDocuments(t *testing.T) {
	random := rand.New(rand.NewSource(14))
	for range 1500 {
		d := sample.Doc(random.Intn)
		all := align.Order(d)
		if !slices.Equal(slices.Sorted(slices.Values(all)), ids(d)) {
			t.Fatalf("Order of %v: %v", d, all)
		}
		under := map[int][]int{}
		for _, n := range d.Notes {
			checkNote(t, d, n)
			for _, above := range chain(d, n.Id)[1:] {
				under[above] = append(under[above], n.Id)
			}
			next := align.Next(d, n.Id)
			if i := slices.Index(all, n.Id); next != 0 && all[i+1] != next {
				t.Fatalf("Next of %d is not directly behind it in %v", n.Id, all)
			}
		}
		for _, n := range d.Notes {
			if l := align.Under(d, n.Id); !slices.Equal(l, under[n.Id]) {
				t.Fatalf("Under of %d in %v: %v, want %v", n.Id, d, l, under[n.Id])
			}
		}
		checkTimes(t, random, d)
	}
}

func ids(d api.Doc) []int {
	var l []int
	for _, n := range d.Notes {
		l = append(l, n.Id)
	}
	return l
}

func checkNote(t *testing.T, d api.Doc, n api.Note) {
	l := align.Chain(d, n.Id)
	if !slices.Equal(l, chain(d, n.Id)) {
		t.Fatalf("Chain of %d in %v: %v", n.Id, d, l)
	}
	s, ok := align.Where(d, n.Id)
	if !ok || s != where(d, n) || s.From >= s.To || !inside(s, api.Span{To: d.Rec.Length}) {
		t.Fatalf("Where of %d in %v: %v", n.Id, d, s)
	}
	for _, above := range l {
		if r, _ := align.Where(d, above); !inside(s, r) {
			t.Fatalf("the time of %d in %v is not within that of %d", n.Id, d, above)
		}
	}
	if d.Tiers[n.Tier].Kind <= api.TierWithin {
		for ms := n.Span.From; ms < n.Span.To; ms++ {
			if id := align.At(d, n.Tier, ms); id != n.Id {
				t.Fatalf("At %d in %v: %d, want %d", ms, d, id, n.Id)
			}
		}
	}
	next := 0
	siblings := tiers.Kids(d, n.Parent, n.Tier)
	if i := slices.Index(siblings, n.Id); i+1 < len(siblings) {
		next = siblings[i+1]
	}
	if got := align.Next(d, n.Id); got != next {
		t.Fatalf("Next of %d in %v: %d, want %d", n.Id, d, got, next)
	}
}

// checkTimes checks Over, At and Words for some spans, times and notes.
func checkTimes(t *testing.T, random *rand.Rand, d api.Doc) {
	s := api.Span{From: random.Intn(12)}
	s.To = s.From + 1 + random.Intn(4)
	id := 0
	if len(d.Notes) > 0 && random.Intn(4) > 0 {
		id = d.Notes[random.Intn(len(d.Notes))].Id
	}
	for tier := range d.Tiers {
		var over []int
		var texts []string
		first := 0
		for _, other := range tiers.Of(d, tier) {
			n, _ := tiers.Get(d, other)
			time := where(d, n)
			if max(time.From, s.From) < min(time.To, s.To) {
				over = append(over, other)
			}
			if first == 0 && inside(api.Span{From: s.From, To: s.From + 1}, time) {
				first = other
			}
			if n.Text != "" && (id == 0 || slices.Contains(chain(d, other), id)) {
				texts = append(texts, n.Text)
			}
		}
		if l := align.Over(d, tier, s); !slices.Equal(l, over) {
			t.Fatalf("Over %v in the tier %d of %v: %v, want %v", s, tier, d, l, over)
		}
		if got := align.At(d, tier, s.From); got != first {
			t.Fatalf("At %d in the tier %d of %v: %d, want %d", s.From, tier, d, got, first)
		}
		if l := align.Words(d, id, tier); !slices.Equal(l, texts) {
			t.Fatalf("Words of %d in the tier %d of %v: %v, want %v", id, tier, d, l, texts)
		}
	}
}

// R5: results are new memory, and arguments stay as they are.
func TestMemory(t *testing.T) {
	d := full()
	for i, call := range []func() []int{
		func() []int { return align.Chain(d, 1) }, func() []int { return align.Under(d, 9) }, func() []int { return align.Over(d, sample.Word, api.Span{To: 12}) }, func() []int { return align.Order(d) },
	} {
		want := slices.Clone(call())
		clear(call())
		if !slices.Equal(call(), want) || len(want) < 2 {
			t.Error("call", i)
		}
	}
	clear(align.Words(d, 0, sample.Word))
	if !tiers.Same(d, full()) {
		t.Error(d)
	}
}

// The functions end for documents that are not right, too.
func TestDocumentsThatAreNotRight(t *testing.T) {
	cycle := api.Doc{Tiers: []api.Tier{{Kind: api.TierSeries, Parent: 1}, {Kind: api.TierSeries, Parent: 0}}, Notes: []api.Note{plain(1, 0, 1, 0, "a"), plain(2, 1, 3, 0, "b"), plain(3, 0, 2, 0, "c"), plain(4, 9, 0, 0, ""), plain(4, -1, 0, 0, ""), plain(3, 0, 5, 0, "")}}
	for _, d := range []api.Doc{cycle, {Notes: cycle.Notes}} {
		for id := -1; id < 6; id++ {
			if len(align.Chain(d, id)) > len(d.Notes) || len(align.Under(d, id)) > len(d.Notes) {
				t.Error("more notes than there are")
			}
			align.Where(d, id)
			align.Next(d, id)
			align.Words(d, id, 0)
			align.At(d, id, 3)
			align.Over(d, id, api.Span{To: 9})
		}
		align.Order(d)
	}
}
