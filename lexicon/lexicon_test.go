package lexicon_test

import (
	"math"
	"math/rand"
	"slices"
	"testing"

	"langdoc/api"
	"langdoc/entry"
	"langdoc/lexicon"
	"langdoc/phoneme"
	"langdoc/sample"
)

// inventory returns one of five segments.
func inventory() api.Inventory {
	return api.Inventory{Segs: []api.Phoneme{{Name: "p"}, {Name: "a"}, {Name: "i"}, {Name: "t"}, {Name: "u"}}}
}

// senses returns senses with these glosses.
func senses(glosses ...string) []api.Sense {
	var l []api.Sense
	for _, s := range glosses {
		l = append(l, api.Sense{Gloss: s, Def: "the " + s})
	}
	return l
}

// book returns a right lexicon: three homonyms, variants, one of which stands before its main entry, and links in both directions.
func book() []api.Entry {
	return []api.Entry{
		{Id: 2, Form: []int{1, 2}, Class: 1, Alts: [][]int{{1, 3}, {4}}, Senses: senses("dog", "hound"), Links: []api.Link{{Kind: api.LinkSynonym, To: 4}, {Kind: api.LinkBroader, To: 9}}, Refs: []api.Ref{{Rec: 1, Note: 7}}},
		{Id: 4, Form: []int{1, 2}, Class: 2, Senses: senses("PL")},
		{Id: 5, Form: []int{3}, Class: 1, Main: 7},
		{Id: 7, Form: []int{1, 3}, Class: 1, Main: 2, Senses: senses("dog")},
		{Id: 9, Form: []int{2}, Class: 3, Senses: senses("animal"), Links: []api.Link{{Kind: api.LinkNarrower, To: 2}}},
		{Id: api.MaxNum, Form: []int{1, 2}, Class: api.MaxClasses, Alts: [][]int{{4}}, Senses: senses("Dog", "PL")},
	}
}

// many returns n right entries with the Ids from 1 on.
func many(n int) []api.Entry {
	var l []api.Entry
	for i := range n {
		l = append(l, api.Entry{Id: i + 1, Form: []int{1}, Class: 1, Senses: senses("a")})
	}
	return l
}

func TestExample(t *testing.T) {
	if err := phoneme.Check(inventory()); err != api.OK {
		t.Error("the inventory of the tests is not right:", err)
	}
}

// P25.1
func TestCheck(t *testing.T) {
	for i, l := range [][]api.Entry{nil, {}, book(), many(1), many(api.MaxEntries)} {
		if err := lexicon.Check(inventory(), l); err != api.OK {
			t.Error("right lexicon", i, err)
		}
	}
	link := func(to int) []api.Link { return []api.Link{{Kind: api.LinkPart, To: to}} }
	for i, c := range []struct {
		err  api.Errno
		turn func(l []api.Entry)
	}{
		// The error of an entry, of the first one that has one.
		{api.ErrRange, func(l []api.Entry) { l[0].Id = 0 }}, {api.ErrRange, func(l []api.Entry) { l[5].Id = api.MaxNum + 1 }}, {api.ErrRange, func(l []api.Entry) { l[3].Id = math.MinInt }}, {api.ErrSegment, func(l []api.Entry) { l[5].Form = []int{6} }}, {api.ErrShort, func(l []api.Entry) { l[2].Main = 0 }}, {api.ErrName, func(l []api.Entry) { l[1].Senses[0].Gloss = "a b"; l[2].Form = nil }}, {api.ErrShort, func(l []api.Entry) { l[1].Form = nil; l[2].Class = 0 }}, {api.ErrCycle, func(l []api.Entry) { l[2].Main = 5 }}, {api.ErrCycle, func(l []api.Entry) { l[4].Links = link(9) }}, {api.ErrKind, func(l []api.Entry) { l[0].Links[0].Kind = -1 }},
		// The order; the entry's own error comes before it.
		{api.ErrOrder, func(l []api.Entry) { l[1].Id = 2 }}, {api.ErrOrder, func(l []api.Entry) { l[1].Id = 1 }}, {api.ErrOrder, func(l []api.Entry) { l[5].Id = 8 }}, {api.ErrOrder, func(l []api.Entry) { l[0], l[5] = l[5], l[0] }}, {api.ErrOrder, func(l []api.Entry) { l[1].Id = 2; l[2].Form = nil }}, {api.ErrClass, func(l []api.Entry) { l[1].Id = 2; l[1].Class = 0 }}, {api.ErrClass, func(l []api.Entry) { l[1].Class = 0; l[2].Id = 3 }},
		// Entries that do not exist, after all of this.
		{api.ErrNone, func(l []api.Entry) { l[2].Main = 3 }}, {api.ErrNone, func(l []api.Entry) { l[2].Main = 1 }}, {api.ErrNone, func(l []api.Entry) { l[2].Main = api.MaxNum - 1 }}, {api.ErrNone, func(l []api.Entry) { l[3].Main = 10 }}, {api.ErrNone, func(l []api.Entry) { l[0].Links[0].To = 3 }}, {api.ErrNone, func(l []api.Entry) { l[0].Links[1].To = 1 }}, {api.ErrNone, func(l []api.Entry) { l[5].Links = link(8) }}, {api.ErrNone, func(l []api.Entry) { l[4].Id = 8 }}, {api.ErrClass, func(l []api.Entry) { l[0].Links[0].To = 3; l[5].Class = 0 }}, {api.ErrOrder, func(l []api.Entry) { l[2].Main = 3; l[5].Id = 1 }},
		{api.OK, func(l []api.Entry) { l[2].Main = api.MaxNum }}, {api.OK, func(l []api.Entry) { l[2].Main = 2 }}, {api.OK, func(l []api.Entry) { l[5].Links, l[5].Main = link(2), 2 }}, {api.OK, func(l []api.Entry) { l[4].Links = link(api.MaxNum) }}, {api.OK, func(l []api.Entry) { l[0].Main = 5 }},
	} {
		l := book()
		c.turn(l)
		if err := lexicon.Check(inventory(), l); err != c.err {
			t.Errorf("change %d: %d, want %d", i, err, c.err)
		}
	}
	if err := lexicon.Check(inventory(), make([]api.Entry, api.MaxEntries+1)); err != api.ErrFull {
		t.Error("too many entries:", err)
	}
	if err := lexicon.Check(inventory(), make([]api.Entry, api.MaxEntries)); err != api.ErrRange {
		t.Error("zero entries:", err)
	}
	if err := lexicon.Check(api.Inventory{}, book()); err != api.ErrSegment {
		t.Error("without segments:", err)
	}
}

// mixed returns a list that is not right: in no order, with Ids and Forms that come again.
func mixed() []api.Entry {
	return []api.Entry{
		{Id: 9, Form: []int{1}, Class: 5, Senses: senses("b")}, {Id: -4, Form: []int{1}, Class: -1, Senses: senses("a", "a")}, {Id: 9, Form: []int{2}, Class: 5, Senses: senses("a")}, {Id: 5, Form: []int{2}, Alts: [][]int{{1}, nil}, Class: 5}, {Id: 0, Form: []int{3}}, {Id: 0, Form: []int{3}}, {Id: 7},
	}
}

// P25.2
func TestGet(t *testing.T) {
	for _, e := range book() {
		if got, ok := lexicon.Get(book(), e.Id); !ok || !entry.Same(got, e) {
			t.Errorf("Get of %d: %v, %t", e.Id, got, ok)
		}
	}
	for id, at := range map[int]int{9: 0, -4: 1, 5: 3, 0: 4, 7: 6} {
		if got, ok := lexicon.Get(mixed(), id); !ok || !entry.Same(got, mixed()[at]) {
			t.Errorf("Get of %d in any list: %v, %t", id, got, ok)
		}
	}
	for _, id := range []int{0, 1, 3, 8, -2, api.MaxNum - 1, api.MaxNum + 1, math.MinInt, math.MaxInt} {
		if got, ok := lexicon.Get(book(), id); ok || !entry.Same(got, api.Entry{}) {
			t.Errorf("Get of %d: %v, %t", id, got, ok)
		}
	}
	if _, ok := lexicon.Get(nil, 0); ok {
		t.Error("Get without entries")
	}
}

// P25.3
func TestByFormClassAndGloss(t *testing.T) {
	for i, c := range []struct{ got, want []int }{
		{lexicon.ByForm(book(), []int{1, 2}), []int{2, 4, api.MaxNum}}, {lexicon.ByForm(book(), []int{1, 3}), []int{2, 7}}, {lexicon.ByForm(book(), []int{4}), []int{2, api.MaxNum}}, {lexicon.ByForm(book(), []int{3}), []int{5}}, {lexicon.ByForm(book(), nil), nil}, {lexicon.ByForm(book(), []int{1}), nil}, {lexicon.ByForm(book(), []int{2, 1}), nil}, {lexicon.ByForm(book(), []int{1, 2, 1}), nil}, {lexicon.ByForm(book(), []int{-1}), nil}, {lexicon.ByForm(nil, []int{1}), nil},
		{lexicon.ByClass(book(), 1), []int{2, 5, 7}}, {lexicon.ByClass(book(), api.MaxClasses), []int{api.MaxNum}}, {lexicon.ByClass(book(), 4), nil}, {lexicon.ByClass(book(), 0), nil}, {lexicon.ByClass(book(), math.MinInt), nil}, {lexicon.ByClass(nil, 1), nil},
		{lexicon.ByGloss(book(), "dog"), []int{2, 7}}, {lexicon.ByGloss(book(), "hound"), []int{2}}, {lexicon.ByGloss(book(), "PL"), []int{4, api.MaxNum}}, {lexicon.ByGloss(book(), "Dog"), []int{api.MaxNum}}, {lexicon.ByGloss(book(), "the dog"), nil}, {lexicon.ByGloss(book(), "do"), nil}, {lexicon.ByGloss(book(), ""), nil}, {lexicon.ByGloss(nil, "dog"), nil},
		// Of any list.
		{lexicon.ByForm(mixed(), []int{1}), []int{-4, 5, 9}}, {lexicon.ByForm(mixed(), []int{2}), []int{5, 9}}, {lexicon.ByForm(mixed(), []int{}), []int{5, 7}}, {lexicon.ByForm(mixed(), []int{3}), []int{0}}, {lexicon.ByClass(mixed(), 5), []int{5, 9}}, {lexicon.ByClass(mixed(), 0), []int{0, 7}}, {lexicon.ByClass(mixed(), -1), []int{-4}}, {lexicon.ByGloss(mixed(), "a"), []int{-4, 9}}, {lexicon.ByGloss(mixed(), "b"), []int{9}},
	} {
		if !slices.Equal(c.got, c.want) {
			t.Errorf("%d: %v, want %v", i, c.got, c.want)
		}
	}
}

// P25.4
func TestHomonym(t *testing.T) {
	for id, want := range map[int]int{2: 1, 4: 2, api.MaxNum: 3, 5: 0, 7: 0, 9: 0, 3: 0, 0: 0, -2: 0, math.MinInt: 0, math.MaxInt: 0} {
		if n := lexicon.Homonym(book(), id); n != want {
			t.Errorf("Homonym of %d: %d, want %d", id, n, want)
		}
	}
	// Of any list: the Form of the first entry with the Id counts, and each Id once.
	for id, want := range map[int]int{9: 2, -4: 1, 5: 1, 0: 0, 7: 0, 3: 0} {
		if n := lexicon.Homonym(mixed(), id); n != want {
			t.Errorf("Homonym of %d in any list: %d, want %d", id, n, want)
		}
	}
	if lexicon.Homonym(nil, 0) != 0 || lexicon.Homonym([]api.Entry{{Id: 1}, {Id: 2}}, 2) != 2 || lexicon.Homonym([]api.Entry{{Id: 3, Form: []int{}}, {Id: 2}}, 3) != 2 {
		t.Error("Homonym of entries without a Form")
	}
}

// P25.5
func TestPut(t *testing.T) {
	b := book()
	of := func(id int) api.Entry {
		return api.Entry{Id: id, Form: []int{5}, Class: 1, Senses: senses("cat"), Links: []api.Link{{Kind: api.LinkBroader, To: 9}}}
	}
	used := func(id, main int) api.Entry { return api.Entry{Id: id, Form: []int{5}, Class: 1, Main: main} }
	for i, c := range []struct {
		e    api.Entry
		want []api.Entry
		err  api.Errno
	}{
		{of(1), slices.Concat([]api.Entry{of(1)}, b), api.OK}, {of(3), slices.Concat(b[:1], []api.Entry{of(3)}, b[1:]), api.OK}, {of(8), slices.Concat(b[:4], []api.Entry{of(8)}, b[4:]), api.OK}, {of(api.MaxNum - 1), slices.Concat(b[:5], []api.Entry{of(api.MaxNum - 1)}, b[5:]), api.OK},
		{of(2), slices.Concat([]api.Entry{of(2)}, b[1:]), api.OK}, {of(7), slices.Concat(b[:3], []api.Entry{of(7)}, b[4:]), api.OK}, {of(api.MaxNum), slices.Concat(b[:5], []api.Entry{of(api.MaxNum)}), api.OK}, {b[3], b, api.OK}, {used(1, 2), slices.Concat([]api.Entry{used(1, 2)}, b), api.OK}, {used(10, 5), slices.Concat(b[:5], []api.Entry{used(10, 5)}, b[5:]), api.OK},
		{of(0), nil, api.ErrRange}, {of(-5), nil, api.ErrRange}, {of(api.MaxNum + 1), nil, api.ErrRange}, {of(9), nil, api.ErrCycle}, {used(6, 6), nil, api.ErrCycle}, {used(6, 0), nil, api.ErrShort}, {used(6, 8), nil, api.ErrNone}, {used(2, 3), nil, api.ErrNone}, {api.Entry{}, nil, api.ErrRange}, {api.Entry{Id: 6}, nil, api.ErrShort}, {api.Entry{Id: 6, Form: []int{6}}, nil, api.ErrSegment}, {api.Entry{Id: 4, Form: []int{1}}, nil, api.ErrClass},
	} {
		if l, err := lexicon.Put(inventory(), b, c.e); err != c.err || !lexicon.Same(l, c.want) {
			t.Errorf("%d: Put: %v, %d, want %d", i, l, err, c.err)
		}
	}
	// A full lexicon takes no further entry, but another one in the place of one that it has.
	if l, err := lexicon.Put(inventory(), many(api.MaxEntries), of(0)); err != api.ErrFull || len(l) != 0 {
		t.Error("Put into a full lexicon:", err)
	}
	if l, err := lexicon.Put(inventory(), many(api.MaxEntries-1), of(api.MaxEntries)); err != api.OK || len(l) != api.MaxEntries {
		t.Error("Put of the last entry:", err)
	}
	if l, err := lexicon.Put(inventory(), many(api.MaxEntries), of(50)); err != api.OK || !entry.Same(l[49], of(50)) || len(l) != api.MaxEntries {
		t.Error("Put in the place of an entry:", err)
	}
	if l, err := lexicon.Put(inventory(), nil, many(1)[0]); err != api.OK || !lexicon.Same(l, many(1)) {
		t.Error("Put of the first entry:", err)
	}
	// If the inventory is another one, the error of an entry before it comes first.
	for id, want := range map[int]api.Errno{0: api.ErrRange, 1: api.ErrShort, 10: api.ErrSegment} {
		if _, err := lexicon.Put(api.Inventory{}, b, api.Entry{Id: id}); err != want {
			t.Errorf("Put of %d without segments: %d, want %d", id, err, want)
		}
	}
}

// P25.5
func TestDrop(t *testing.T) {
	b := book()
	for id, want := range map[int][]api.Entry{5: slices.Concat(b[:2], b[3:]), api.MaxNum: b[:5]} {
		if l, err := lexicon.Drop(b, id); err != api.OK || !lexicon.Same(l, want) {
			t.Errorf("Drop of %d: %v, %d", id, l, err)
		}
	}
	for id, want := range map[int]api.Errno{2: api.ErrUsed, 4: api.ErrUsed, 7: api.ErrUsed, 9: api.ErrUsed, 3: api.ErrNone, 0: api.ErrNone, -2: api.ErrNone, 1: api.ErrNone, api.MaxNum - 1: api.ErrNone, math.MinInt: api.ErrNone, math.MaxInt: api.ErrNone} {
		if l, err := lexicon.Drop(b, id); err != want || len(l) != 0 {
			t.Errorf("Drop of %d: %v, %d, want %d", id, l, err, want)
		}
	}
	// An entry may be used as Main alone, or in a link that is not the first one.
	l := []api.Entry{{Id: 1, Main: 2}, {Id: 2}, {Id: 3, Links: []api.Link{{To: 1}, {To: 4}}}, {Id: 4}}
	for id, want := range map[int]api.Errno{1: api.ErrUsed, 2: api.ErrUsed, 3: api.OK, 4: api.ErrUsed} {
		if _, err := lexicon.Drop(l, id); err != want {
			t.Errorf("Drop of %d: %d, want %d", id, err, want)
		}
	}
	if l, err := lexicon.Drop(many(1), 1); err != api.OK || len(l) != 0 {
		t.Error("Drop of the only entry:", l, err)
	}
	if _, err := lexicon.Drop(nil, 0); err != api.ErrNone {
		t.Error("Drop without entries:", err)
	}
}

// P25.6
func TestSame(t *testing.T) {
	b := book()
	if !lexicon.Same(b, book()) || !lexicon.Same(nil, []api.Entry{}) || !lexicon.Same(mixed(), mixed()) || !lexicon.Same([]api.Entry{{Form: []int{}}}, []api.Entry{{}}) {
		t.Error("equal lists")
	}
	for i, turn := range []func(l []api.Entry) []api.Entry{
		func(l []api.Entry) []api.Entry { return l[1:] }, func(l []api.Entry) []api.Entry { return l[:5] }, func(l []api.Entry) []api.Entry { return nil }, func(l []api.Entry) []api.Entry { return append(l, api.Entry{}) }, func(l []api.Entry) []api.Entry { l[1], l[2] = l[2], l[1]; return l }, func(l []api.Entry) []api.Entry { l[0].Id++; return l }, func(l []api.Entry) []api.Entry { l[5].Alts[0][0]++; return l }, func(l []api.Entry) []api.Entry { l[3].Senses[0].Def = ""; return l }, func(l []api.Entry) []api.Entry { l[0].Refs = nil; return l },
	} {
		if l := turn(book()); lexicon.Same(b, l) || lexicon.Same(l, b) || !lexicon.Same(l, l) {
			t.Error("change", i)
		}
	}
}

// some returns an entry that may be right.
func some(random *rand.Rand) api.Entry {
	e := api.Entry{Id: random.Intn(12), Form: []int{1 + random.Intn(3)}, Class: 1 + random.Intn(2), Main: max(0, random.Intn(30)-18), Senses: senses("a", "b")[:random.Intn(3)]}
	if random.Intn(3) == 0 {
		e.Links = []api.Link{{Kind: random.Intn(6), To: 1 + random.Intn(11)}}
	}
	return e
}

// P25.3, P25.4, P25.5, P25.7: after any Puts and Drops, the lexicon is right and has what was put and not dropped.
func TestManyPuts(t *testing.T) {
	random := rand.New(rand.NewSource(25))
	var l []api.Entry
	has := map[int]api.Entry{}
	done := map[api.Errno]int{}
	for range 20000 {
		e := some(random)
		_, known := has[e.Id]
		var next []api.Entry
		var err api.Errno
		if random.Intn(2) == 0 {
			next, err = lexicon.Put(inventory(), l, e)
			if err == api.OK {
				has[e.Id] = e
			}
			if back, undone := lexicon.Drop(next, e.Id); err == api.OK && !known && (undone != api.OK || !lexicon.Same(back, l)) {
				t.Fatalf("Drop after Put of %v into %v: %v, %d", e, l, back, undone)
			}
		} else {
			next, err = lexicon.Drop(l, e.Id)
			if known != (err != api.ErrNone) {
				t.Fatalf("Drop of %d from %v: %d", e.Id, l, err)
			}
			if err == api.OK {
				delete(has, e.Id)
			}
		}
		done[err]++
		if err == api.OK {
			l = next
		}
		checkLexicon(t, l, has)
	}
	for _, err := range []api.Errno{api.OK, api.ErrNone, api.ErrUsed, api.ErrCycle, api.ErrRange, api.ErrShort} {
		if done[err] < 100 {
			t.Errorf("only %d times %d", done[err], err)
		}
	}
}

// checkLexicon checks that a lexicon is right, has these entries, and finds them.
func checkLexicon(t *testing.T, l []api.Entry, has map[int]api.Entry) {
	if err := lexicon.Check(inventory(), l); err != api.OK || len(l) != len(has) {
		t.Fatalf("%v, want %v: %d", l, has, err)
	}
	homonyms := map[int][]int{}
	for _, e := range l {
		if got, ok := lexicon.Get(l, e.Id); !ok || !entry.Same(got, has[e.Id]) {
			t.Fatalf("Get of %d in %v: %v", e.Id, l, got)
		}
		homonyms[e.Form[0]] = append(homonyms[e.Form[0]], e.Id)
	}
	for form, ids := range homonyms {
		for i, id := range ids {
			want := i + 1
			if len(ids) == 1 {
				want = 0
			}
			if n := lexicon.Homonym(l, id); n != want {
				t.Fatalf("Homonym of %d in %v: %d, want %d", id, l, n, want)
			}
		}
		if got := lexicon.ByForm(l, []int{form}); !slices.Equal(got, ids) {
			t.Fatalf("ByForm of %d in %v: %v", form, l, got)
		}
	}
}

// R5: results are new memory, and arguments stay as they are.
func TestMemory(t *testing.T) {
	b, e := book(), book()[0]
	e.Id = 3
	for i, call := range []func() []api.Entry{
		func() []api.Entry { l, _ := lexicon.Put(inventory(), b, e); return l },
		func() []api.Entry { l, _ := lexicon.Put(inventory(), b, b[0]); return l },
		func() []api.Entry { l, _ := lexicon.Drop(b, 5); return l },
		func() []api.Entry { x, _ := lexicon.Get(b, 2); return []api.Entry{x} },
	} {
		l := call()
		sample.Wipe(l)
		e.Id = 2
		if len(l) == 0 || !lexicon.Same(b, book()) || !entry.Same(e, book()[0]) {
			t.Fatal("call", i, b, e)
		}
		e.Id = 3
	}
	clear(lexicon.ByClass(b, 1))
	if !lexicon.Same(b, book()) {
		t.Error(b)
	}
}

// The functions end for lists that are not right, too.
func TestListsThatAreNotRight(t *testing.T) {
	for id := -5; id < 12; id++ {
		lexicon.Put(inventory(), mixed(), api.Entry{Id: id})
		lexicon.Drop(mixed(), id)
		lexicon.Put(api.Inventory{Segs: make([]api.Phoneme, 3)}, book(), api.Entry{Id: id, Form: []int{9}})
	}
}
