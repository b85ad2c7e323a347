package concord_test

import (
	"cmp"
	"math"
	"math/rand"
	"slices"
	"strings"
	"testing"

	"langdoc/api"
	"langdoc/collate"
	"langdoc/concord"
	"langdoc/layout"
	"langdoc/ortho"
	"langdoc/sample"
	"langdoc/tiers"
)

// timed makes notes with a span, plain those without.
var timed, plain = sample.Timed, sample.Plain

// full returns a right document whose Ids are not in the order of the tiers.
func full() api.Doc {
	return sample.Of(
		timed(5, sample.Text, 0, 8, 12, "second"), timed(9, sample.Text, 0, 0, 8, "first"),
		timed(20, sample.Word, 9, 7, 8, "d"), timed(21, sample.Word, 9, 1, 3, "a"), timed(22, sample.Word, 9, 5, 7, ""), timed(23, sample.Word, 9, 3, 5, "b"), timed(24, sample.Word, 5, 8, 9, "e"), timed(25, sample.Word, 5, 10, 12, "f"),
		plain(40, sample.Morph, 23, 1, "y"), plain(41, sample.Morph, 23, 0, "x"), plain(42, sample.Morph, 23, 2, "z"), plain(43, sample.Morph, 22, 0, "v"), plain(50, sample.Free, 9, 0, "one"), plain(51, sample.Free, 5, 0, "two"),
	)
}

// alphabet returns a right orthography with the letters m, b (and B), a and i.
func alphabet() api.Ortho {
	return api.Ortho{Name: "o", Letters: [][]string{{"m"}, {"b", "B"}, {"a"}, {"i"}}}
}

func TestExample(t *testing.T) {
	if err := tiers.Check(full()); err != api.OK {
		t.Error("the document of the tests is not right:", err)
	}
	if err := ortho.Check(api.Inventory{}, alphabet()); err != api.OK {
		t.Error("the orthography of the tests is not right:", err)
	}
	// The example of the chapter.
	d := sample.Of(timed(1, sample.Text, 0, 0, 9, "ba mi"), timed(2, sample.Word, 1, 0, 3, "ba"), timed(3, sample.Word, 1, 4, 9, "mi"))
	if l := concord.Lines(concord.All(d, []int{2, 3}, 1)); !slices.Equal(l, []string{"   [ba] mi", "ba [mi]"}) {
		t.Errorf("%q", l)
	}
}

func hit(note int, left []string, key string, right ...string) api.Hit {
	return api.Hit{Ref: api.Ref{Rec: 3, Note: note}, Left: left, Key: key, Right: right}
}

func same(a, b api.Hit) bool {
	return a.Ref == b.Ref && a.Key == b.Key && slices.Equal(a.Left, b.Left) && slices.Equal(a.Right, b.Right)
}

func sameAll(a, b []api.Hit) bool { return slices.EqualFunc(a, b, same) }

func list(l ...string) []string { return l }

// P39.1
func TestHit(t *testing.T) {
	for i, c := range []struct {
		id, n int
		want  api.Hit
	}{
		{23, 1, hit(23, list("a"), "b", "")}, {23, 2, hit(23, list("a"), "b", "", "d")}, {23, 3, hit(23, list("a"), "b", "", "d")}, {23, 0, hit(23, nil, "b")}, {23, -1, hit(23, nil, "b")}, {23, math.MinInt, hit(23, nil, "b")}, {23, math.MaxInt, hit(23, list("a"), "b", "", "d")}, {23, math.MaxInt - 1, hit(23, list("a"), "b", "", "d")},
		{21, 2, hit(21, nil, "a", "b", "")}, {22, 1, hit(22, list("b"), "", "d")}, {22, 5, hit(22, list("a", "b"), "", "d")}, {20, 1, hit(20, list(""), "d")}, {20, 2, hit(20, list("b", ""), "d")}, {20, 9, hit(20, list("a", "b", ""), "d")},
		// Words of another text are no neighbors, but all notes of a root tier are.
		{24, 3, hit(24, nil, "e", "f")}, {25, 3, hit(25, list("e"), "f")}, {9, 1, hit(9, nil, "first", "second")}, {5, 7, hit(5, list("first"), "second")}, {51, 2, hit(51, nil, "two")}, {43, 2, hit(43, nil, "v")}, {41, 1, hit(41, nil, "x", "y")}, {40, 1, hit(40, list("x"), "y", "z")}, {42, 2, hit(42, list("x", "y"), "z")},
	} {
		if h, ok := concord.Hit(full(), c.id, c.n); !ok || !same(h, c.want) {
			t.Errorf("%d: %v, %t, want %v", i, h, ok, c.want)
		}
	}
	for _, id := range []int{0, -1, 1, 26, 99, math.MinInt, math.MaxInt} {
		if h, ok := concord.Hit(full(), id, 1); ok || !same(h, api.Hit{}) {
			t.Errorf("Hit of %d: %v, %t", id, h, ok)
		}
	}
	if _, ok := concord.Hit(sample.Of(), 1, 1); ok {
		t.Error("Hit without notes")
	}
}

// P39.1
func TestAll(t *testing.T) {
	for i, c := range []struct {
		ids  []int
		n    int
		want []api.Hit
	}{
		{[]int{25, 21, 25}, 1, []api.Hit{hit(25, list("e"), "f"), hit(21, nil, "a", "b"), hit(25, list("e"), "f")}}, {[]int{0, 22, 99, -1, 43}, 1, []api.Hit{hit(22, list("b"), "", "d"), hit(43, nil, "v")}}, {[]int{23}, -5, []api.Hit{hit(23, nil, "b")}}, {[]int{0, 1}, 1, nil}, {nil, 1, nil},
	} {
		if l := concord.All(full(), c.ids, c.n); !sameAll(l, c.want) {
			t.Errorf("%d: %v, want %v", i, l, c.want)
		}
	}
}

// at returns a line with another Ref.
func at(h api.Hit, rec, note int) api.Hit {
	h.Ref = api.Ref{Rec: rec, Note: note}
	return h
}

// inOrder returns lines in their order.
func inOrder() []api.Hit {
	return []api.Hit{
		at(hit(1, list("x"), "", "x"), 9, 9), at(hit(1, nil, "m"), 9, 9), hit(1, nil, "mi"), hit(1, nil, "b"), hit(1, nil, "B"),
		// Of one key: by the texts on its right, from the key on.
		at(hit(1, nil, "ba"), math.MinInt, math.MaxInt), at(hit(1, nil, "ba"), 2, 9), hit(1, nil, "ba"), hit(2, nil, "ba"), at(hit(1, nil, "ba"), math.MaxInt, -1),
		// Then by those on its left, from the key on.
		hit(1, list(""), "ba"), hit(1, list("ba", "mi"), "ba"), hit(1, list("i", "mi"), "ba"), hit(1, list("ba", "i", "mi"), "ba"), hit(1, list("mi", "ba"), "ba"), hit(1, list("mi", "mi", "ba"), "ba"), hit(1, list("m", "i"), "ba"),
		at(hit(1, list("i"), "ba", ""), 9, 9), hit(1, nil, "ba", "m"), at(hit(1, list("m"), "ba", "m"), 9, 9), hit(1, list("b"), "ba", "m"), hit(1, nil, "ba", "m", ""), hit(1, nil, "ba", "m", "i"), hit(1, nil, "ba", "ma"), hit(1, nil, "ba", "b", "m"), hit(1, nil, "ba", "B", "m"), hit(1, nil, "ba", "a", "m"),
		hit(1, nil, "Ba"), hit(1, nil, "bi"), hit(1, nil, "A"), hit(1, nil, "\xff"),
	}
}

// P39.2
func TestLess(t *testing.T) {
	for i, a := range inOrder() {
		for j, b := range inOrder() {
			if concord.Less(alphabet(), a, b) != (i < j) {
				t.Errorf("Less of %v and %v", a, b)
			}
		}
	}
}

// P39.2
func TestSort(t *testing.T) {
	random := rand.New(rand.NewSource(39))
	for range 50 {
		l := inOrder()
		random.Shuffle(len(l), func(i, j int) { l[i], l[j] = l[j], l[i] })
		if got := concord.Sort(alphabet(), l); !sameAll(got, inOrder()) {
			t.Fatal(got)
		}
	}
	// Lines that are equal are all there; nil and empty lists show which one is which.
	none := []string{}
	l := concord.Sort(alphabet(), []api.Hit{{Key: "mi"}, {Key: "b", Left: none}, {Key: "a"}, {Key: "b"}, {Key: "b", Right: none}, {Key: "mi", Left: none}})
	if len(l) != 6 || l[0].Left != nil || l[1].Left == nil || l[2].Left == nil || l[3].Left != nil || l[4].Left != nil || l[4].Right == nil || l[3].Right != nil || l[5].Key != "a" {
		t.Error(l)
	}
	if len(concord.Sort(alphabet(), nil)) != 0 || len(concord.Sort(api.Ortho{}, []api.Hit{})) != 0 {
		t.Error("Sort without lines")
	}
	// Without letters, the order is that of bytes.
	if l := concord.Sort(api.Ortho{}, []api.Hit{{Key: "b"}, {Key: "a", Right: list("z")}, {Key: "B"}, {Key: "a"}}); l[0].Key != "B" || l[1].Key != "a" || len(l[1].Right) != 0 || l[3].Key != "b" {
		t.Error(l)
	}
}

// P39.3
func TestLines(t *testing.T) {
	for i, c := range []struct {
		l    []api.Hit
		want []string
	}{
		{nil, nil}, {[]api.Hit{{}}, list(" []")}, {[]api.Hit{hit(1, nil, "ba")}, list(" [ba]")}, {[]api.Hit{hit(1, list("a", "b"), "c", "d", "e")}, list("a b [c] d e")}, {[]api.Hit{hit(1, list(""), "c", "")}, list(" [c] ")}, {[]api.Hit{hit(1, list("", ""), "c", "", "")}, list("  [c]  ")},
		{[]api.Hit{hit(1, list("ba"), "mi"), hit(2, nil, "ba", "mi"), hit(3, list("a", "b", "c"), "x"), hit(4, list("", ""), "x")}, list("   ba [mi]", "      [ba] mi", "a b c [x]", "      [x]")},
		// The width counts clusters, and the bytes of strings that are not valid.
		{[]api.Hit{hit(1, list("a\u0301e\u0301"), "k\u0301", "\u0301"), hit(2, list("abc"), "[")}, list(" a\u0301e\u0301 [k\u0301] \u0301", "abc [[]")}, {[]api.Hit{hit(1, list("\xc3\xa9"), "x"), hit(2, list("\xff\xff"), "\xff", "\xff")}, list(" \u00e9 [x]", "\xff\xff [\xff] \xff")}, {[]api.Hit{hit(1, list("a\u0301", "\xff"), "x"), hit(2, list("1234"), "x")}, list("a\u0301 \xff [x]", " 1234 [x]")}, {[]api.Hit{hit(1, list("a", "\u0301b"), "x"), hit(2, list("a", "b"), "x")}, list("a \u0301b [x]", "a b [x]")},
	} {
		if l := concord.Lines(c.l); !slices.Equal(l, c.want) {
			t.Errorf("%d: %q, want %q", i, l, c.want)
		}
	}
}

// neighbors returns the texts of the notes that stand some places, all in one direction, from a note, from the definition.
func neighbors(d api.Doc, n api.Note, from, to int) []string {
	var row []api.Note
	for _, m := range d.Notes {
		if m.Tier == n.Tier && m.Parent == n.Parent {
			row = append(row, m)
		}
	}
	slices.SortFunc(row, func(a, b api.Note) int {
		return cmp.Or(cmp.Compare(a.Span.From, b.Span.From), cmp.Compare(a.Rank, b.Rank))
	})
	var l []string
	for i := slices.Index(row, n) + from; from <= to; i, from = i+1, from+1 {
		if i >= 0 && i < len(row) {
			l = append(l, row[i].Text)
		}
	}
	return l
}

// P39.1, P39.4: of many documents.
func TestManyDocuments(t *testing.T) {
	random := rand.New(rand.NewSource(40))
	for range 300 {
		d := sample.Doc(random.Intn)
		n := random.Intn(6) - 1
		var ids []int
		var want []api.Hit
		for _, note := range d.Notes {
			h := api.Hit{Ref: api.Ref{Rec: d.Rec.Id, Note: note.Id}, Left: neighbors(d, note, -n, -1), Key: note.Text, Right: neighbors(d, note, 1, n)}
			if got, ok := concord.Hit(d, note.Id, n); !ok || !same(got, h) {
				t.Fatalf("Hit of %d in %v with %d: %v, want %v", note.Id, d, n, got, h)
			}
			if random.Intn(3) == 0 {
				ids, want = append(ids, note.Id, 5000), append(want, h)
			}
		}
		l := concord.All(d, ids, n)
		if !sameAll(l, want) {
			t.Fatalf("All of %v in %v with %d: %v", ids, d, n, l)
		}
		checkSorted(t, random, l)
		checkLines(t, l)
	}
}

// checkSorted checks that the lines of a document are sorted from any order.
func checkSorted(t *testing.T, random *rand.Rand, l []api.Hit) {
	sorted := concord.Sort(alphabet(), l)
	for i := 1; i < len(sorted); i++ {
		a, b := sorted[i-1], sorted[i]
		if !concord.Less(alphabet(), a, b) || concord.Less(alphabet(), b, a) || collate.Compare(alphabet(), a.Key, b.Key) > 0 {
			t.Fatalf("%v before %v", a, b)
		}
	}
	other := slices.Clone(l)
	random.Shuffle(len(l), func(i, j int) { other[i], other[j] = other[j], other[i] })
	if len(sorted) != len(l) || !sameAll(concord.Sort(alphabet(), other), sorted) {
		t.Fatalf("%v and %v", l, other)
	}
}

// checkLines checks that lines have their parts, with the brackets at one distance.
func checkLines(t *testing.T, l []api.Hit) {
	distance := -1
	for i, s := range concord.Lines(l) {
		left, rest, ok := strings.Cut(s, " [")
		want := strings.Join(append([]string{l[i].Key + "]"}, l[i].Right...), " ")
		if !ok || strings.TrimLeft(left, " ") != strings.TrimLeft(strings.Join(l[i].Left, " "), " ") || rest != want {
			t.Fatalf("%q of %v", s, l[i])
		}
		if distance >= 0 && layout.Width(left) != distance {
			t.Fatalf("the brackets of %q in %v", s, l)
		}
		distance = layout.Width(left)
	}
}

// Many lines are sorted soon.
func TestManyLines(t *testing.T) {
	random := rand.New(rand.NewSource(41))
	var l []api.Hit
	for i := range api.MaxLines {
		text := func() string { return []string{"ba", "mi", "bami", "Ba", "i", "x"}[random.Intn(6)] }
		l = append(l, hit(i, list(text(), text(), text()), text(), text(), text(), text()))
	}
	sorted := concord.Sort(alphabet(), l)
	for i := 1; i < len(sorted); i++ {
		if !concord.Less(alphabet(), sorted[i-1], sorted[i]) {
			t.Fatal(sorted[i-1], sorted[i])
		}
	}
}

// R5: results are new memory, and arguments stay as they are.
func TestMemory(t *testing.T) {
	d, l := full(), inOrder()
	slices.Reverse(l)
	want := slices.Clone(l)
	for i, call := range []func() []api.Hit{
		func() []api.Hit { return concord.All(d, []int{23, 22}, 3) }, func() []api.Hit { return concord.Sort(alphabet(), l) }, func() []api.Hit { h, _ := concord.Hit(d, 23, 2); return []api.Hit{h} },
	} {
		kept := call()
		for _, h := range call() {
			clear(h.Left)
			clear(h.Right)
		}
		if !sameAll(call(), kept) || !sameAll(l, want) || !tiers.Same(d, full()) {
			t.Error("call", i)
		}
	}
	concord.Less(alphabet(), l[3], l[4])
	clear(concord.Lines(l))
	slices.Reverse(l)
	if !sameAll(l, inOrder()) {
		t.Error(l)
	}
}

// The functions end for documents and orthographies that are not right, too.
func TestWhatIsNotRight(t *testing.T) {
	d := api.Doc{Notes: []api.Note{plain(1, 0, 1, 0, "a"), plain(2, 9, 3, 0, "b"), plain(2, -1, 2, 0, "c"), plain(0, 0, 1, 0, "")}}
	for id := -1; id < 4; id++ {
		concord.Hit(d, id, 2)
	}
	o := api.Ortho{Letters: [][]string{nil, {""}, {"a", "a"}, {"a"}}}
	concord.Sort(o, inOrder())
	concord.Less(o, inOrder()[1], inOrder()[2])
}
