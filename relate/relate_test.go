package relate_test

import (
	"cmp"
	"fmt"
	"maps"
	"math"
	"math/rand"
	"slices"
	"testing"

	"langdoc/api"
	"langdoc/entry"
	"langdoc/lexicon"
	"langdoc/relate"
	"langdoc/sample"
)

// The kinds of links, and numbers that are none.
var (
	kinds = []int{api.LinkSynonym, api.LinkAntonym, api.LinkBroader, api.LinkNarrower, api.LinkPart, api.LinkWhole}
	odd   = []int{-1, -2, 6, 7, math.MinInt, math.MaxInt}
)

func link(kind, to int) api.Link { return api.Link{Kind: kind, To: to} }

func of(id int, links ...api.Link) api.Entry { return api.Entry{Id: id, Links: links} }

// book returns a list that Check accepts: 2 is a synonym of 3, and 3 of 5; 2 is narrower than 5, and this than 9; 9 is a part of 2.
func book() []api.Entry {
	return []api.Entry{
		{Id: 2, Form: []int{1, 2}, Alts: [][]int{{3}}, Class: 1, Senses: []api.Sense{{Gloss: "dog"}}, Links: []api.Link{link(0, 3), link(2, 5), link(5, 9)}, Refs: []api.Ref{{Rec: 1, Note: 7}}},
		of(3, link(0, 2), link(0, 5), link(1, 4)), of(4, link(1, 3)), of(5, link(0, 3), link(2, 9), link(3, 2)), {Id: 7, Main: 2}, of(9, link(3, 5), link(4, 2)),
	}
}

// turned returns the list with other links of some entries, by their Ids.
func turned(l []api.Entry, links map[int][]api.Link) []api.Entry {
	for i, e := range l {
		if x, ok := links[e.Id]; ok {
			l[i].Links = x
		}
	}
	return l
}

// P26.1
func TestInverse(t *testing.T) {
	for i, want := range []int{api.LinkSynonym, api.LinkAntonym, api.LinkNarrower, api.LinkBroader, api.LinkWhole, api.LinkPart} {
		if n := relate.Inverse(kinds[i]); n != want {
			t.Errorf("Inverse of %d: %d", kinds[i], n)
		}
	}
	for _, kind := range odd {
		if n := relate.Inverse(kind); n != -1 {
			t.Errorf("Inverse of %d: %d", kind, n)
		}
	}
}

// P26.2
func TestCheck(t *testing.T) {
	for i, c := range []struct {
		l   []api.Entry
		err api.Errno
	}{
		{nil, api.OK}, {book(), api.OK}, {[]api.Entry{of(1)}, api.OK}, {[]api.Entry{of(1, link(0, 2)), of(2, link(0, 1))}, api.OK},
		// A link by itself, the first one that has an error, and the first error of it.
		{[]api.Entry{of(1, link(6, 9)), of(2)}, api.ErrKind}, {[]api.Entry{of(1, link(-1, 2)), of(2, link(-1, 1))}, api.ErrKind}, {[]api.Entry{of(1, link(math.MinInt, 2)), of(2)}, api.ErrKind}, {[]api.Entry{of(1, link(2, 3)), of(2)}, api.ErrNone}, {[]api.Entry{of(1, link(0, 0))}, api.ErrNone}, {[]api.Entry{of(1, link(0, 2)), of(2)}, api.ErrArg}, {[]api.Entry{of(1), of(2, link(4, 1))}, api.ErrArg}, {[]api.Entry{of(1, link(2, 2)), of(2, link(2, 1))}, api.ErrArg}, {[]api.Entry{of(1, link(2, 2)), of(2, link(5, 1))}, api.ErrArg}, {[]api.Entry{of(1, link(4, 2)), of(2, link(5, 3)), of(3, link(4, 2))}, api.ErrArg}, {[]api.Entry{of(1, link(1, 2)), of(2, link(0, 1))}, api.ErrArg},
		{[]api.Entry{of(1, link(0, 2), link(7, 2)), of(2)}, api.ErrArg}, {[]api.Entry{of(1, link(0, 2)), of(2, link(0, 1), link(0, 9)), of(3, link(9, 9))}, api.ErrNone}, {[]api.Entry{of(1, link(0, 9), link(7, 2)), of(2, link(8, 1))}, api.ErrNone}, {[]api.Entry{of(1, link(0, 2), link(6, 2)), of(2, link(0, 1), link(0, 9))}, api.ErrKind},
		// Cycles, after all links; other kinds may be reached from themselves, and two kinds make none.
		{[]api.Entry{of(1, link(2, 1), link(3, 1))}, api.ErrCycle}, {[]api.Entry{of(1, link(4, 1), link(5, 1))}, api.ErrCycle}, {[]api.Entry{of(1, link(2, 2), link(3, 2)), of(2, link(2, 1), link(3, 1))}, api.ErrCycle}, {[]api.Entry{of(1, link(4, 2), link(5, 3)), of(2, link(4, 3), link(5, 1)), of(3, link(4, 1), link(5, 2))}, api.ErrCycle}, {[]api.Entry{of(1), of(2, link(2, 3), link(3, 4)), of(3, link(2, 4), link(3, 2)), of(4, link(2, 2), link(3, 3))}, api.ErrCycle}, {[]api.Entry{of(1, link(2, 2), link(3, 2)), of(2, link(2, 1), link(3, 1)), of(3, link(0, 9))}, api.ErrNone},
		{[]api.Entry{of(1, link(0, 1))}, api.OK}, {[]api.Entry{of(1, link(1, 1))}, api.OK}, {[]api.Entry{of(1, link(0, 2), link(0, 3)), of(2, link(0, 1), link(0, 3)), of(3, link(0, 1), link(0, 2))}, api.OK}, {[]api.Entry{of(1, link(2, 2), link(4, 2)), of(2, link(3, 1), link(5, 1))}, api.OK}, {[]api.Entry{of(1, link(2, 2), link(5, 2)), of(2, link(3, 1), link(4, 1))}, api.OK}, {[]api.Entry{of(1, link(2, 2), link(2, 3)), of(2, link(2, 3), link(3, 1)), of(3, link(3, 1), link(3, 2))}, api.OK},
		// Lists in any order, also of links.
		{[]api.Entry{of(9, link(4, 1), link(0, 1)), of(1, link(5, 9), link(0, 9))}, api.OK}, {[]api.Entry{of(9, link(2, 1)), of(1, link(3, 9)), of(1, link(2, 9))}, api.ErrArg}, {[]api.Entry{of(-5, link(3, 0)), of(0, link(2, -5))}, api.OK}, {[]api.Entry{of(1, link(2, 2), link(3, 2)), of(2, link(2, 1), link(3, 1)), of(1)}, api.ErrCycle},
	} {
		if err := relate.Check(c.l); err != c.err {
			t.Errorf("%d: Check: %d, want %d", i, err, c.err)
		}
	}
}

// P26.3, and the examples of the chapter.
func TestLink(t *testing.T) {
	many := func(n int) []api.Link {
		var links []api.Link
		for i := range n {
			links = append(links, link(1, 100+i))
		}
		return links
	}
	for i, c := range []struct {
		from, kind, to int
		want           map[int][]api.Link
	}{
		{3, 2, 9, map[int][]api.Link{3: {link(0, 2), link(0, 5), link(1, 4), link(2, 9)}, 9: {link(3, 3), link(3, 5), link(4, 2)}}}, {9, 3, 7, map[int][]api.Link{9: {link(3, 5), link(3, 7), link(4, 2)}, 7: {link(2, 9)}}}, {2, 0, 9, map[int][]api.Link{2: {link(0, 3), link(0, 9), link(2, 5), link(5, 9)}, 9: {link(0, 2), link(3, 5), link(4, 2)}}}, {5, 1, 2, map[int][]api.Link{5: {link(0, 3), link(1, 2), link(2, 9), link(3, 2)}, 2: {link(0, 3), link(1, 5), link(2, 5), link(5, 9)}}}, {5, 4, 9, map[int][]api.Link{5: {link(0, 3), link(2, 9), link(3, 2), link(4, 9)}, 9: {link(3, 5), link(4, 2), link(5, 5)}}}, {2, 2, 9, map[int][]api.Link{2: {link(0, 3), link(2, 5), link(2, 9), link(5, 9)}, 9: {link(3, 2), link(3, 5), link(4, 2)}}}, {2, 0, 5, map[int][]api.Link{2: {link(0, 3), link(0, 5), link(2, 5), link(5, 9)}, 5: {link(0, 2), link(0, 3), link(2, 9), link(3, 2)}}},
	} {
		if l, err := relate.Link(book(), c.from, c.kind, c.to); err != api.OK || !lexicon.Same(l, turned(book(), c.want)) {
			t.Errorf("%d: Link: %v, %d", i, l, err)
		}
	}
	full, half := turned(book(), map[int][]api.Link{7: many(api.MaxLinks)}), turned(book(), map[int][]api.Link{4: {link(1, 3), link(2, 7)}})
	for i, c := range []struct {
		l              []api.Entry
		from, kind, to int
		err            api.Errno
	}{
		{book(), 1, 9, 1, api.ErrNone}, {book(), 2, -1, 8, api.ErrNone}, {book(), 6, 0, 2, api.ErrNone}, {book(), 0, 0, 2, api.ErrNone}, {book(), 2, 0, math.MaxInt, api.ErrNone}, {nil, 0, 0, 0, api.ErrNone}, {book(), 2, 6, 2, api.ErrKind}, {full, 7, -1, 2, api.ErrKind}, {book(), 2, 0, 2, api.ErrCycle}, {full, 7, 3, 7, api.ErrCycle}, {[]api.Entry{of(1, link(0, 1))}, 1, 0, 1, api.ErrCycle},
		{book(), 2, 0, 3, api.ErrTwice}, {book(), 3, 0, 2, api.ErrTwice}, {book(), 5, 3, 2, api.ErrTwice}, {turned(book(), map[int][]api.Link{7: append([]api.Link{link(0, 2)}, many(20)...)}), 7, 0, 2, api.ErrTwice}, {[]api.Entry{of(1, link(2, 2), link(3, 2)), of(2)}, 1, 3, 2, api.ErrTwice},
		{full, 7, 0, 2, api.ErrFull}, {full, 2, 2, 7, api.ErrFull}, {turned(book(), map[int][]api.Link{7: many(api.MaxLinks + 5)}), 7, 0, 2, api.ErrFull}, {turned(book(), map[int][]api.Link{9: append(many(api.MaxLinks), link(3, 5))}), 9, 2, 2, api.ErrFull}, {turned(book(), map[int][]api.Link{7: many(api.MaxLinks - 1)}), 7, 4, 2, api.OK},
		{book(), 9, 2, 2, api.ErrCycle}, {book(), 9, 2, 5, api.ErrCycle}, {book(), 2, 3, 9, api.ErrCycle}, {book(), 2, 4, 9, api.ErrCycle}, {book(), 9, 5, 2, api.ErrCycle}, {book(), 9, 0, 2, api.OK}, {book(), 9, 4, 5, api.OK}, {book(), 9, 1, 5, api.OK},
		// Of lists that Check does not accept.
		{half, 4, 2, 9, api.OK}, {half, 9, 2, 4, api.OK}, {half, 7, 2, 4, api.ErrCycle}, {half, 7, 3, 4, api.OK},
	} {
		if l, err := relate.Link(c.l, c.from, c.kind, c.to); err != c.err || err == api.OK && len(l) != len(c.l) || err != api.OK && len(l) > 0 {
			t.Errorf("%d: Link: %v, %d, want %d", i, l, err, c.err)
		}
	}
	// The inverse is not put in again.
	if l, err := relate.Link(half, 7, 3, 4); err != api.OK || !lexicon.Same(l, turned(half, map[int][]api.Link{7: {link(3, 4)}})) {
		t.Error("Link of which the inverse is there:", l, err)
	}
}

// P26.4
func TestUnlink(t *testing.T) {
	none := turned(book(), map[int][]api.Link{7: {link(-1, 4), link(2, 4), link(7, 4)}, 4: {link(-1, 7), link(1, 3), link(7, 7)}})
	self := []api.Entry{of(1, link(0, 1), link(2, 1), link(3, 1), link(9, 1))}
	for i, c := range []struct {
		l              []api.Entry
		from, kind, to int
		want           map[int][]api.Link
	}{
		{book(), 2, 0, 3, map[int][]api.Link{2: {link(2, 5), link(5, 9)}, 3: {link(0, 5), link(1, 4)}}}, {book(), 3, 0, 2, map[int][]api.Link{2: {link(2, 5), link(5, 9)}, 3: {link(0, 5), link(1, 4)}}}, {book(), 2, 2, 5, map[int][]api.Link{2: {link(0, 3), link(5, 9)}, 5: {link(0, 3), link(2, 9)}}}, {book(), 9, 3, 5, map[int][]api.Link{9: {link(4, 2)}, 5: {link(0, 3), link(3, 2)}}}, {book(), 4, 1, 3, map[int][]api.Link{4: nil, 3: {link(0, 2), link(0, 5)}}},
		// Links without an inverse, of a kind that has none or of one that has, and links of entries with themselves.
		{none, 7, 7, 4, map[int][]api.Link{7: {link(-1, 4), link(2, 4)}}}, {none, 7, -1, 4, map[int][]api.Link{7: {link(2, 4), link(7, 4)}}}, {none, 4, 7, 7, map[int][]api.Link{4: {link(-1, 7), link(1, 3)}}}, {none, 7, 2, 4, map[int][]api.Link{7: {link(-1, 4), link(7, 4)}}}, {self, 1, 0, 1, map[int][]api.Link{1: {link(2, 1), link(3, 1), link(9, 1)}}}, {self, 1, 3, 1, map[int][]api.Link{1: {link(0, 1), link(9, 1)}}}, {self, 1, 9, 1, map[int][]api.Link{1: {link(0, 1), link(2, 1), link(3, 1)}}},
	} {
		l, err := relate.Unlink(c.l, c.from, c.kind, c.to)
		if err != api.OK || !lexicon.Same(l, turned(slices.Clone(c.l), c.want)) {
			t.Errorf("%d: Unlink: %v, %d", i, l, err)
		}
	}
	for i, c := range [][3]int{{1, 0, 2}, {2, 0, 1}, {2, 0, 5}, {2, 3, 5}, {2, 1, 3}, {7, 0, 2}, {2, 9, 3}, {2, -1, 3}, {0, 0, 0}, {9, 5, 2}, {math.MinInt, 0, 3}} {
		if l, err := relate.Unlink(book(), c[0], c[1], c[2]); err != api.ErrNone || len(l) > 0 {
			t.Errorf("%d: Unlink: %v, %d", i, l, err)
		}
	}
	// One of the entries does not exist, though there is the link.
	if _, err := relate.Unlink([]api.Entry{of(1, link(0, 2))}, 1, 0, 2); err != api.ErrNone {
		t.Error("Unlink of an entry that does not exist:", err)
	}
}

// P26.5
func TestReach(t *testing.T) {
	loop := []api.Entry{of(1, link(2, 3), link(2, 9), link(7, 2)), of(2, link(2, 1), link(7, 2)), of(3, link(2, 2), link(2, 4)), of(4)}
	for i, c := range []struct {
		l        []api.Entry
		id, kind int
		want     []int
	}{
		{book(), 2, 2, []int{5, 9}}, {book(), 5, 2, []int{9}}, {book(), 9, 2, nil}, {book(), 9, 3, []int{2, 5}}, {book(), 5, 3, []int{2}}, {book(), 2, 3, nil}, {book(), 2, 0, []int{2, 3, 5}}, {book(), 3, 0, []int{2, 3, 5}}, {book(), 3, 1, []int{3, 4}}, {book(), 4, 1, []int{3, 4}}, {book(), 2, 5, []int{9}}, {book(), 9, 4, []int{2}}, {book(), 2, 4, nil}, {book(), 7, 0, nil},
		{book(), 6, 0, nil}, {book(), 0, 2, nil}, {book(), math.MaxInt, 2, nil}, {book(), 2, 6, nil}, {book(), 2, -1, nil}, {nil, 1, 0, nil},
		// Cycles, entries that do not exist, and any kinds.
		{loop, 1, 2, []int{1, 2, 3, 4}}, {loop, 3, 2, []int{1, 2, 3, 4}}, {loop, 4, 2, nil}, {loop, 9, 2, nil}, {loop, 1, 7, []int{2}}, {loop, 2, 7, []int{2}}, {loop, 1, 3, nil},
	} {
		if got := relate.Reach(c.l, c.id, c.kind); !slices.Equal(got, c.want) {
			t.Errorf("%d: Reach: %v, want %v", i, got, c.want)
		}
	}
}

// P26.5
func TestClear(t *testing.T) {
	for i, c := range []struct {
		l    []api.Entry
		id   int
		want map[int][]api.Link
	}{
		{book(), 2, map[int][]api.Link{2: nil, 3: {link(0, 5), link(1, 4)}, 5: {link(0, 3), link(2, 9)}, 9: {link(3, 5)}}}, {book(), 4, map[int][]api.Link{4: nil, 3: {link(0, 2), link(0, 5)}}}, {book(), 7, nil}, {book(), 6, nil}, {book(), 0, nil}, {book(), -1, nil},
		{[]api.Entry{of(1, link(0, 1), link(4, 3), link(7, 3), link(9, 2)), of(2, link(-1, 3))}, 3, map[int][]api.Link{1: {link(0, 1), link(9, 2)}, 2: nil}}, {[]api.Entry{of(1, link(0, 1), link(4, 3)), of(2, link(8, 1), link(8, 2))}, 1, map[int][]api.Link{1: nil, 2: {link(8, 2)}}},
	} {
		if l := relate.Clear(c.l, c.id); !lexicon.Same(l, turned(c.l, c.want)) {
			t.Errorf("%d: Clear: %v", i, l)
		}
	}
	if l := relate.Clear(nil, 1); len(l) != 0 {
		t.Error("Clear of nothing:", l)
	}
}

// graph is the set of the links that a list has.
type graph map[[3]int]bool

// list returns the entries 1 to n with the links of a graph.
func (g graph) list(n int) []api.Entry {
	l := make([]api.Entry, n)
	for i := range l {
		l[i].Id = i + 1
	}
	for x := range g {
		l[x[0]-1].Links = append(l[x[0]-1].Links, link(x[1], x[2]))
	}
	for _, e := range l {
		slices.SortFunc(e.Links, func(a, b api.Link) int { return cmp.Or(a.Kind-b.Kind, a.To-b.To) })
	}
	return l
}

// reach returns the entries to which one or more steps by the kind lead, from the definition.
func (g graph) reach(from, kind int) []int {
	met := map[int]bool{}
	for more := true; more; {
		more = false
		for x := range g {
			if x[1] == kind && (x[0] == from || met[x[0]]) && !met[x[2]] {
				met[x[2]], more = true, true
			}
		}
	}
	return slices.Sorted(maps.Keys(met))
}

// size returns how many links an entry has.
func (g graph) size(id int) int {
	n := 0
	for x := range g {
		if x[0] == id {
			n++
		}
	}
	return n
}

// linked returns the error of Link, from the definition.
func (g graph) linked(from, kind, to int) api.Errno {
	switch {
	case from == to:
		return api.ErrCycle
	case g[[3]int{from, kind, to}]:
		return api.ErrTwice
	case g.size(from) >= api.MaxLinks || g.size(to) >= api.MaxLinks:
		return api.ErrFull
	case kind >= api.LinkBroader && slices.Contains(g.reach(to, kind), from):
		return api.ErrCycle
	}
	return api.OK
}

// P26.2 to P26.6: after any changes, the list has what was put in and not taken out, and is accepted.
func TestManyLinks(t *testing.T) {
	random := rand.New(rand.NewSource(26))
	const n = 9
	done := map[string]int{}
	g := graph{}
	l := g.list(n)
	for round := range 6000 {
		from, kind, to := 1+random.Intn(n), kinds[random.Intn(6)], 1+random.Intn(n)
		there, back := [3]int{from, kind, to}, [3]int{to, relate.Inverse(kind), from}
		switch action := random.Intn(40); {
		case action == 0:
			l = relate.Clear(l, from)
			for x := range g {
				if x[0] == from || x[2] == from {
					delete(g, x)
				}
			}
			done["clear"]++
		case action < 12:
			next, err := relate.Unlink(l, from, kind, to)
			if g[there] != (err == api.OK) || err != api.OK && err != api.ErrNone {
				t.Fatalf("Unlink of %v from %v: %d", there, l, err)
			}
			if err == api.OK {
				l = next
				delete(g, there)
				delete(g, back)
			}
			done[fmt.Sprint("unlink ", err)]++
		default:
			next, err := relate.Link(l, from, kind, to)
			if want := g.linked(from, kind, to); err != want {
				t.Fatalf("Link of %v to %v: %d, want %d", there, l, err, want)
			}
			if err == api.OK {
				checkUndone(t, l, next, there, back)
				l = next
				g[there], g[back] = true, true
			}
			done[fmt.Sprint("link ", err)]++
		}
		if err := relate.Check(l); err != api.OK || !lexicon.Same(l, g.list(n)) {
			t.Fatalf("%v, want %v: %d", l, g.list(n), err)
		}
		if round%20 == 0 {
			checkReach(t, g, l)
		}
	}
	for _, key := range []string{"clear", "unlink 0", "unlink 9", "link 0", "link 8", "link 11", "link 17"} {
		if done[key] < 100 {
			t.Error("only", done[key], key)
		}
	}
}

// checkUndone checks that Unlink of a link that was put in gives the list of before, and so does Unlink of its inverse.
func checkUndone(t *testing.T, l, next []api.Entry, links ...[3]int) {
	for _, x := range links {
		if undone, err := relate.Unlink(next, x[0], x[1], x[2]); err != api.OK || !lexicon.Same(undone, l) {
			t.Fatalf("Unlink of %v after Link: %v, %d, want %v", x, undone, err, l)
		}
	}
}

// checkReach checks Reach by all kinds.
func checkReach(t *testing.T, g graph, l []api.Entry) {
	for _, kind := range kinds {
		for _, e := range l {
			ids := relate.Reach(l, e.Id, kind)
			if !slices.Equal(ids, g.reach(e.Id, kind)) || kind >= api.LinkBroader && slices.Contains(ids, e.Id) {
				t.Fatalf("Reach of %d by %d in %v: %v", e.Id, kind, l, ids)
			}
			for _, id := range ids {
				further := relate.Reach(l, id, kind)
				if slices.ContainsFunc(further, func(c int) bool { return !slices.Contains(ids, c) }) || !slices.Contains(relate.Reach(l, id, relate.Inverse(kind)), e.Id) {
					t.Fatalf("Reach of %d by %d in %v: %v, and of %d: %v", e.Id, kind, l, ids, id, further)
				}
			}
		}
	}
}

// R5: results are new memory, and arguments stay as they are.
func TestMemory(t *testing.T) {
	b := book()
	for i, call := range []func() []api.Entry{
		func() []api.Entry { l, _ := relate.Link(b, 3, 2, 9); return l },
		func() []api.Entry { l, _ := relate.Link(b, 2, 0, 9); return l },
		func() []api.Entry { l, _ := relate.Unlink(b, 2, 2, 5); return l },
		func() []api.Entry { return relate.Clear(b, 2) },
		func() []api.Entry { return relate.Clear(b, 7) },
	} {
		l := call()
		if !lexicon.Same(b, book()) {
			t.Fatal("call", i, b)
		}
		if sample.Wipe(l); len(l) != len(b) || !lexicon.Same(b, book()) {
			t.Fatal("call", i, b)
		}
	}
	if l, _ := relate.Link(b, 3, 2, 9); !entry.Same(l[4], b[4]) {
		t.Error(l)
	}
}

// Large lists do not take long.
func TestLargest(t *testing.T) {
	const n = 10 * api.MaxEntries
	g := graph{}
	for id := range n - 3 {
		for by := range 3 {
			g[[3]int{id + 1, api.LinkBroader, id + 2 + by}], g[[3]int{id + 2 + by, api.LinkNarrower, id + 1}] = true, true
		}
	}
	l := g.list(n)
	if err := relate.Check(l); err != api.OK || len(relate.Reach(l, 1, api.LinkBroader)) != n-1 {
		t.Error(err)
	}
}

// The functions end for lists that are not right, too.
func TestListsThatAreNotRight(t *testing.T) {
	l := []api.Entry{of(3, link(2, 3), link(9, 1), link(0, 3), link(2, 1)), of(1, link(2, 3), link(2, 3)), of(3, link(2, 1)), of(0, link(-1, 0)), of(-1)}
	for id := -2; id < 5; id++ {
		for _, kind := range append(odd, kinds...) {
			relate.Reach(l, id, kind)
			for to := -2; to < 5; to++ {
				relate.Link(l, id, kind, to)
				relate.Unlink(l, id, kind, to)
			}
		}
		relate.Clear(l, id)
	}
}
