package entry_test

import (
	"math"
	"math/rand"
	"slices"
	"strings"
	"testing"

	"langdoc/api"
	"langdoc/entry"
	"langdoc/phoneme"
)

// inventory returns one of five segments.
func inventory() api.Inventory {
	return api.Inventory{Segs: []api.Phoneme{{Name: "p"}, {Name: "a"}, {Name: "i"}, {Name: "t"}, {Name: "u"}}}
}

// dog returns a right entry.
func dog() api.Entry {
	return api.Entry{
		Id: 7, Form: []int{1, 2}, Class: 3, Alts: [][]int{{1, 3}, {2}},
		Senses: []api.Sense{{Gloss: "dog", Def: "an animal"}, {Gloss: "hound"}},
		Links:  []api.Link{{Kind: api.LinkSynonym, To: 9}, {Kind: api.LinkBroader, To: 1}, {Kind: api.LinkBroader, To: 5}},
		Refs:   []api.Ref{{Rec: 1, Note: 7}, {Rec: 2, Note: 3}, {Rec: 2, Note: 8}},
	}
}

// full returns a right entry that has as much of everything as is permitted.
func full() api.Entry {
	e := api.Entry{Id: api.MaxNum, Form: slices.Repeat([]int{5}, api.MaxWord), Class: api.MaxClasses, Main: api.MaxNum - 1}
	for i := range api.MaxAlts {
		e.Alts = append(e.Alts, slices.Repeat([]int{1}, i+1))
	}
	for i := range api.MaxSenses {
		e.Senses = append(e.Senses, api.Sense{Gloss: strings.Repeat("a", api.MaxName-i), Def: strings.Repeat("b", api.MaxText)})
	}
	for i := range api.MaxLinks {
		e.Links = append(e.Links, api.Link{Kind: i / 2, To: api.MaxNum - 2 + i%2})
		e.Refs = append(e.Refs, api.Ref{Rec: 1 + i/3, Note: api.MaxNum - 3 + i%3})
	}
	return e
}

// P24.1
func TestGloss(t *testing.T) {
	for s, want := range map[string]bool{
		"dog": true, "3sg": true, "1.PL": true, "a_b": true, "Dog!": true, "%": true, "\u00e9": true, "\u4e00": true, "\u00a0": true, strings.Repeat("a", api.MaxName): true, strings.Repeat("\u00e9", api.MaxName/2): true,
		"": false, "come back": false, " ": false, " a": false, "a ": false, "un-do": false, "-": false, "-s": false, "a-": false, strings.Repeat("a", api.MaxName+1): false, "a\t": false, "\n": false, "\x7f": false, "\xff": false, "\x00": false,
	} {
		if entry.Gloss(s) != want {
			t.Errorf("Gloss of %q", s)
		}
	}
}

// turn changes an entry.
type turn func(e *api.Entry)

// P24.2
func TestCheck(t *testing.T) {
	for i, e := range []api.Entry{dog(), full(), {Id: 1, Form: []int{5}, Class: 1, Senses: []api.Sense{{Gloss: "a"}}}, {Id: 1, Form: []int{5}, Class: 1, Main: 2}} {
		if err := entry.Check(inventory(), e); err != api.OK {
			t.Error("right entry", i, err)
		}
	}
	bad := api.Sense{Gloss: "a b", Def: "\n"}
	for i, c := range []struct {
		err  api.Errno
		turn turn
	}{
		// 1
		{api.ErrRange, func(e *api.Entry) { e.Id, e.Form = 0, nil }}, {api.ErrRange, func(e *api.Entry) { e.Id = -7 }}, {api.ErrRange, func(e *api.Entry) { e.Id = api.MaxNum + 1 }}, {api.ErrRange, func(e *api.Entry) { e.Id = math.MinInt }},
		{api.ErrShort, func(e *api.Entry) { e.Form, e.Class = nil, 0 }}, {api.ErrLong, func(e *api.Entry) { e.Form = make([]int, api.MaxWord+1) }}, {api.ErrSegment, func(e *api.Entry) { e.Form, e.Class = []int{6}, 0 }}, {api.ErrSegment, func(e *api.Entry) { e.Form = []int{1, 0} }}, {api.OK, func(e *api.Entry) { e.Form = []int{5} }},
		{api.ErrClass, func(e *api.Entry) { e.Class, e.Alts = 0, make([][]int, 4) }}, {api.ErrClass, func(e *api.Entry) { e.Class = api.MaxClasses + 1 }}, {api.ErrClass, func(e *api.Entry) { e.Class = math.MinInt }}, {api.OK, func(e *api.Entry) { e.Class = api.MaxClasses }},
		// 2
		{api.ErrFull, func(e *api.Entry) { e.Alts, e.Main = make([][]int, api.MaxAlts+1), -1 }}, {api.ErrShort, func(e *api.Entry) { e.Alts[0] = nil }}, {api.ErrLong, func(e *api.Entry) { e.Alts[1] = slices.Repeat([]int{1}, api.MaxWord+1) }}, {api.ErrSegment, func(e *api.Entry) { e.Alts[1], e.Main = []int{1, 6}, -1 }},
		{api.ErrTwice, func(e *api.Entry) { e.Alts[0] = []int{1, 2} }}, {api.ErrTwice, func(e *api.Entry) { e.Alts[1], e.Main = []int{1, 2}, -1 }}, {api.ErrTwice, func(e *api.Entry) { e.Alts[1] = []int{1, 3} }}, {api.ErrTwice, func(e *api.Entry) { e.Alts = [][]int{{1}, {1}, {9}} }}, {api.ErrSegment, func(e *api.Entry) { e.Alts = [][]int{{1}, {9}, {1}} }}, {api.OK, func(e *api.Entry) { e.Alts = [][]int{{1}, {2}, {2, 1}} }}, {api.OK, func(e *api.Entry) { e.Alts = nil }},
		// 3
		{api.ErrRange, func(e *api.Entry) { e.Main, e.Senses = -1, nil }}, {api.ErrRange, func(e *api.Entry) { e.Main = api.MaxNum + 1 }}, {api.ErrRange, func(e *api.Entry) { e.Main = math.MinInt }}, {api.ErrCycle, func(e *api.Entry) { e.Main, e.Senses = 7, make([]api.Sense, 6) }}, {api.OK, func(e *api.Entry) { e.Main = api.MaxNum }},
		// 4
		{api.ErrFull, func(e *api.Entry) { e.Senses = make([]api.Sense, api.MaxSenses+1) }}, {api.ErrShort, func(e *api.Entry) { e.Senses, e.Links[0].Kind = nil, 9 }}, {api.OK, func(e *api.Entry) { e.Senses, e.Main = nil, 8 }},
		{api.ErrName, func(e *api.Entry) { e.Senses[0] = bad }}, {api.ErrName, func(e *api.Entry) { e.Senses[1] = bad }}, {api.ErrName, func(e *api.Entry) { e.Senses[1].Gloss = "" }}, {api.ErrName, func(e *api.Entry) { e.Senses, e.Main = make([]api.Sense, 1), 8 }}, {api.ErrForm, func(e *api.Entry) { e.Senses[0].Def = "\t"; e.Senses[1] = bad }}, {api.ErrLong, func(e *api.Entry) { e.Senses[1].Def = strings.Repeat("a", api.MaxText+1); e.Senses[1].Gloss = "dog" }}, {api.ErrTwice, func(e *api.Entry) { e.Senses[1].Gloss = "dog"; e.Links[0].Kind = 9 }}, {api.ErrTwice, func(e *api.Entry) { e.Senses = []api.Sense{{Gloss: "a"}, {Gloss: "b"}, {Gloss: "a"}, bad} }}, {api.OK, func(e *api.Entry) { e.Senses[1].Def = e.Senses[0].Def; e.Senses[1].Gloss = "Dog" }},
		// 5
		{api.ErrFull, func(e *api.Entry) { e.Links, e.Refs[0].Rec = make([]api.Link, api.MaxLinks+1), 0 }}, {api.ErrKind, func(e *api.Entry) { e.Links[0] = api.Link{Kind: -1} }}, {api.ErrKind, func(e *api.Entry) { e.Links[2] = api.Link{Kind: api.LinkWhole + 1} }}, {api.ErrRange, func(e *api.Entry) { e.Links[1].To = 0 }}, {api.ErrRange, func(e *api.Entry) { e.Links[1].To = api.MaxNum + 1 }}, {api.ErrCycle, func(e *api.Entry) { e.Links[2] = api.Link{To: 7} }},
		{api.ErrOrder, func(e *api.Entry) { e.Links[1].To = 5; e.Refs[0].Rec = 0 }}, {api.ErrOrder, func(e *api.Entry) { e.Links[1].To = 6 }}, {api.ErrOrder, func(e *api.Entry) { e.Links[0].Kind = api.LinkNarrower }}, {api.ErrOrder, func(e *api.Entry) { e.Links[0] = api.Link{Kind: api.LinkBroader, To: 1} }}, {api.OK, func(e *api.Entry) { e.Links[0] = api.Link{Kind: api.LinkAntonym, To: api.MaxNum} }}, {api.OK, func(e *api.Entry) { e.Links[2] = api.Link{Kind: api.LinkWhole, To: 1} }}, {api.OK, func(e *api.Entry) { e.Links = nil }},
		// 6
		{api.ErrFull, func(e *api.Entry) { e.Refs = make([]api.Ref, api.MaxRefs+1) }}, {api.ErrRange, func(e *api.Entry) { e.Refs[0].Rec = 0 }}, {api.ErrRange, func(e *api.Entry) { e.Refs[2].Note = 0 }}, {api.ErrRange, func(e *api.Entry) { e.Refs[1].Rec = api.MaxNum + 1 }}, {api.ErrRange, func(e *api.Entry) { e.Refs[1] = api.Ref{Rec: 1, Note: -1} }}, {api.ErrOrder, func(e *api.Entry) { e.Refs[0].Rec = 3 }}, {api.ErrOrder, func(e *api.Entry) { e.Refs[2].Note = 3 }}, {api.ErrOrder, func(e *api.Entry) { e.Refs[2].Note = 2 }}, {api.ErrOrder, func(e *api.Entry) { e.Refs[1] = e.Refs[0] }}, {api.ErrOrder, func(e *api.Entry) { e.Refs[1].Rec, e.Refs[2].Note = 1, 0 }}, {api.OK, func(e *api.Entry) { e.Refs[2] = api.Ref{Rec: 3, Note: 1} }}, {api.OK, func(e *api.Entry) { e.Refs = nil }},
	} {
		e := dog()
		c.turn(&e)
		if err := entry.Check(inventory(), e); err != c.err {
			t.Errorf("change %d: %d, want %d", i, err, c.err)
		}
	}
	if err := entry.Check(api.Inventory{}, dog()); err != api.ErrSegment {
		t.Error("Check without segments:", err)
	}
}

func TestInventory(t *testing.T) {
	if err := phoneme.Check(inventory()); err != api.OK {
		t.Error("the inventory of the tests is not right:", err)
	}
}

// P24.3
func TestFormsAndHas(t *testing.T) {
	for i, c := range []struct {
		e     api.Entry
		forms [][]int
	}{
		{dog(), [][]int{{1, 2}, {1, 3}, {2}}}, {api.Entry{Form: []int{4}}, [][]int{{4}}}, {api.Entry{}, [][]int{nil}}, {api.Entry{Alts: [][]int{{-1}, nil, {-1}}}, [][]int{nil, {-1}, nil, {-1}}},
	} {
		if l := entry.Forms(c.e); !slices.EqualFunc(l, c.forms, slices.Equal[[]int]) {
			t.Errorf("%d: Forms: %v", i, l)
		}
		for _, w := range [][]int{nil, {}, {1}, {2}, {1, 2}, {1, 3}, {2, 1}, {1, 2, 3}, {4}, {-1}} {
			want := slices.ContainsFunc(c.forms, func(form []int) bool { return slices.Equal(form, w) })
			if entry.Has(c.e, w) != want {
				t.Errorf("%d: Has of %v", i, w)
			}
		}
	}
}

// P24.4
func TestAdd(t *testing.T) {
	for i, c := range []struct {
		e   api.Entry
		s   api.Sense
		err api.Errno
	}{
		{dog(), api.Sense{Gloss: "cur"}, api.OK}, {dog(), api.Sense{Gloss: "Dog", Def: "an animal"}, api.OK}, {dog(), api.Sense{Gloss: "a", Def: strings.Repeat("a", api.MaxText)}, api.OK}, {api.Entry{Id: 7, Form: []int{1}, Class: 1, Main: 3}, api.Sense{Gloss: "a"}, api.OK},
		{full(), api.Sense{Gloss: "a b", Def: "\n"}, api.ErrFull}, {full(), api.Sense{Gloss: "x"}, api.ErrFull}, {dog(), api.Sense{Gloss: "a b", Def: "\n"}, api.ErrName}, {dog(), api.Sense{}, api.ErrName}, {dog(), api.Sense{Gloss: "dog", Def: "\n"}, api.ErrForm}, {dog(), api.Sense{Gloss: "dog", Def: strings.Repeat("a", api.MaxText+1)}, api.ErrLong}, {dog(), api.Sense{Gloss: "dog"}, api.ErrTwice}, {dog(), api.Sense{Gloss: "hound", Def: "x"}, api.ErrTwice},
	} {
		var want api.Entry
		if c.err == api.OK {
			want = c.e
			want.Senses = append(slices.Clone(c.e.Senses), c.s)
		}
		if e, err := entry.Add(c.e, c.s); err != c.err || !entry.Same(e, want) {
			t.Errorf("%d: Add: %v, %d, want %d", i, e, err, c.err)
		}
	}
}

// P24.5
func TestAttestAndForget(t *testing.T) {
	a, b, c := dog().Refs[0], dog().Refs[1], dog().Refs[2]
	ref := func(rec, note int) api.Ref { return api.Ref{Rec: rec, Note: note} }
	for i, x := range []struct {
		r    api.Ref
		want []api.Ref
		err  api.Errno
	}{
		{ref(1, 6), []api.Ref{ref(1, 6), a, b, c}, api.OK}, {ref(1, 8), []api.Ref{a, ref(1, 8), b, c}, api.OK}, {ref(2, 2), []api.Ref{a, ref(2, 2), b, c}, api.OK}, {ref(2, 4), []api.Ref{a, b, ref(2, 4), c}, api.OK}, {ref(2, api.MaxNum), []api.Ref{a, b, c, ref(2, api.MaxNum)}, api.OK}, {ref(api.MaxNum, 1), []api.Ref{a, b, c, ref(api.MaxNum, 1)}, api.OK}, {ref(1, 1), []api.Ref{ref(1, 1), a, b, c}, api.OK},
		{a, []api.Ref{a, b, c}, api.OK}, {b, []api.Ref{a, b, c}, api.OK}, {c, []api.Ref{a, b, c}, api.OK},
		{ref(0, 1), nil, api.ErrRange}, {ref(1, 0), nil, api.ErrRange}, {ref(-1, 7), nil, api.ErrRange}, {ref(1, api.MaxNum+1), nil, api.ErrRange}, {ref(math.MaxInt, 1), nil, api.ErrRange}, {ref(1, math.MinInt), nil, api.ErrRange},
	} {
		var want api.Entry
		if x.err == api.OK {
			want = dog()
			want.Refs = x.want
		}
		e, err := entry.Attest(dog(), x.r)
		if err != x.err || !entry.Same(e, want) {
			t.Errorf("%d: Attest: %v, %d", i, e, err)
		}
	}
	for i, x := range []struct {
		r    api.Ref
		want []api.Ref
		err  api.Errno
	}{
		{a, []api.Ref{b, c}, api.OK}, {b, []api.Ref{a, c}, api.OK}, {c, []api.Ref{a, b}, api.OK}, {ref(1, 6), nil, api.ErrNone}, {ref(1, 3), nil, api.ErrNone}, {ref(3, 7), nil, api.ErrNone}, {ref(0, 0), nil, api.ErrNone}, {ref(-1, math.MaxInt), nil, api.ErrNone},
	} {
		var want api.Entry
		if x.err == api.OK {
			want = dog()
			want.Refs = x.want
		}
		if e, err := entry.Forget(dog(), x.r); err != x.err || !entry.Same(e, want) {
			t.Errorf("%d: Forget: %v, %d", i, e, err)
		}
	}
	// A full entry is changed by nothing but what it has.
	if e, err := entry.Attest(full(), full().Refs[5]); err != api.OK || !entry.Same(e, full()) {
		t.Error("Attest of what a full entry has:", err)
	}
	if e, err := entry.Attest(full(), ref(1, 1)); err != api.ErrFull || !entry.Same(e, api.Entry{}) {
		t.Error("Attest of more:", err)
	}
	if _, err := entry.Attest(full(), ref(0, 1)); err != api.ErrRange {
		t.Error("Attest of no reference:", err)
	}
}

// P24.6
func TestSame(t *testing.T) {
	empty := api.Entry{Form: []int{}, Alts: [][]int{}, Senses: []api.Sense{}, Links: []api.Link{}, Refs: []api.Ref{}}
	if !entry.Same(dog(), dog()) || !entry.Same(api.Entry{}, empty) || !entry.Same(empty, api.Entry{}) || !entry.Same(api.Entry{Alts: [][]int{nil}}, api.Entry{Alts: [][]int{{}}}) {
		t.Error("equal entries")
	}
	for i, turn := range []turn{
		func(e *api.Entry) { e.Id++ }, func(e *api.Entry) { e.Form[1]++ }, func(e *api.Entry) { e.Form = nil }, func(e *api.Entry) { e.Class++ }, func(e *api.Entry) { e.Alts[0][1]++ }, func(e *api.Entry) { e.Alts = e.Alts[1:] }, func(e *api.Entry) { e.Alts[1] = nil }, func(e *api.Entry) { e.Main++ },
		func(e *api.Entry) { e.Senses[0].Gloss = "x" }, func(e *api.Entry) { e.Senses[1].Def = "x" }, func(e *api.Entry) { e.Senses = e.Senses[:1] }, func(e *api.Entry) { e.Links[0].Kind++ }, func(e *api.Entry) { e.Links[2].To++ }, func(e *api.Entry) { e.Links = nil }, func(e *api.Entry) { e.Refs[0].Rec++ }, func(e *api.Entry) { e.Refs[2].Note++ }, func(e *api.Entry) { e.Refs = e.Refs[:2] },
	} {
		e := dog()
		turn(&e)
		if entry.Same(dog(), e) || entry.Same(e, dog()) || !entry.Same(e, e) {
			t.Error("change", i)
		}
	}
}

// P24.7: whatever is done to a right entry leaves it right, and Attest and Forget take each other back.
func TestLaws(t *testing.T) {
	random := rand.New(rand.NewSource(24))
	e := dog()
	for range 5000 {
		r := api.Ref{Rec: 1 + random.Intn(4), Note: 1 + random.Intn(4)}
		var next api.Entry
		err := api.OK
		has := slices.Contains(e.Refs, r)
		switch random.Intn(9) {
		case 0:
			next, err = entry.Add(e, api.Sense{Gloss: string("abcdefgh"[random.Intn(8)])})
			if len(e.Senses) > 4 {
				e.Senses = e.Senses[:2]
			}
		case 1, 2, 3, 4:
			next, err = entry.Forget(e, r)
			if has != (err == api.OK) {
				t.Fatalf("Forget of %v in %v: %d", r, e.Refs, err)
			}
			if back, err := entry.Attest(next, r); has && (err != api.OK || !entry.Same(back, e)) {
				t.Fatalf("Attest after Forget of %v in %v: %v, %d", r, e.Refs, back.Refs, err)
			}
		default:
			next, err = entry.Attest(e, r)
			if back, _ := entry.Forget(next, r); !has && err == api.OK && !entry.Same(back, e) || has && !entry.Same(next, e) {
				t.Fatalf("Forget after Attest of %v in %v: %v", r, e.Refs, back.Refs)
			}
			if err == api.OK && !slices.Contains(next.Refs, r) || (err == api.ErrFull) != (!has && len(e.Refs) == api.MaxRefs) {
				t.Fatalf("Attest of %v in %v: %v, %d", r, e.Refs, next.Refs, err)
			}
		}
		if err == api.OK {
			e = next
		}
		if err := entry.Check(inventory(), e); err != api.OK {
			t.Fatalf("%v is not right: %d", e, err)
		}
	}
}

// R5: results are new memory, and arguments stay as they are.
func TestMemory(t *testing.T) {
	e := dog()
	for i, call := range []func() api.Entry{
		func() api.Entry { x, _ := entry.Add(e, api.Sense{Gloss: "x"}); return x },
		func() api.Entry { x, _ := entry.Attest(e, api.Ref{Rec: 1, Note: 1}); return x },
		func() api.Entry { x, _ := entry.Attest(e, e.Refs[1]); return x },
		func() api.Entry { x, _ := entry.Forget(e, e.Refs[1]); return x },
	} {
		x := call()
		clear(x.Form)
		clear(x.Alts[0])
		clear(x.Alts)
		clear(x.Senses)
		clear(x.Links)
		clear(x.Refs)
		if !entry.Same(e, dog()) || len(x.Form) == 0 {
			t.Error("call", i, e)
		}
	}
	l := entry.Forms(e)
	clear(l[0])
	clear(l[1])
	if !entry.Same(e, dog()) {
		t.Error("Forms", e)
	}
	// No two lists of one result share memory.
	l = entry.Forms(e)
	l[0] = append(l[0], 9)
	if !slices.Equal(l[1], e.Alts[0]) {
		t.Error("Forms", l)
	}
}

// The functions end for entries that are not right, too.
func TestEntriesThatAreNotRight(t *testing.T) {
	e := api.Entry{Refs: []api.Ref{{Rec: 9, Note: 1}, {}, {Rec: 3, Note: 3}}, Senses: make([]api.Sense, 9)}
	for _, r := range append(e.Refs, api.Ref{Rec: 5, Note: 5}) {
		entry.Attest(e, r)
		entry.Forget(e, r)
	}
	entry.Add(e, api.Sense{})
}
