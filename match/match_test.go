package match_test

import (
	"fmt"
	"math"
	"math/rand"
	"slices"
	"testing"

	"langdoc/api"
	"langdoc/match"
	"langdoc/pattern"
	"langdoc/query"
	"langdoc/sample"
	"langdoc/tiers"
	"langdoc/tiertype"
)

// timed makes notes with a span, plain those without.
var timed, plain = sample.Timed, sample.Plain

// full returns a right document: the second text stands before the first one, and parents stand behind their children.
func full() api.Doc {
	return sample.Of(
		plain(1, sample.Deep, 42, 0, "d"), plain(2, sample.Gloss, 43, 0, "PL"), timed(5, sample.Text, 0, 8, 12, "second"), timed(9, sample.Text, 0, 0, 8, "first"),
		timed(20, sample.Word, 9, 5, 7, "mi"), timed(21, sample.Word, 9, 1, 4, "ba"), timed(22, sample.Word, 5, 8, 9, ""), timed(23, sample.Word, 5, 10, 12, "tu"),
		plain(40, sample.Morph, 20, 1, "i"), plain(41, sample.Morph, 20, 0, "m"), plain(42, sample.Gloss, 44, 0, ""), plain(43, sample.Morph, 21, 0, ""), plain(44, sample.Morph, 23, 0, "tu"),
		timed(50, sample.Other, 0, 3, 9, "noise"), timed(51, sample.Other, 0, 10, 12, "tu"), plain(60, sample.Free, 9, 0, "one"),
	)
}

func TestExample(t *testing.T) {
	if err := tiers.Check(full()); err != api.OK {
		t.Error("the document of the tests is not right:", err)
	}
}

// lists is Then, Within or Has.
type lists func(d api.Doc, a, b []int) []int

// P36.1
func TestThenWithinAndHas(t *testing.T) {
	d := full()
	all := []int{60, 51, 50, 44, 43, 42, 41, 40, 23, 22, 21, 20, 9, 5, 2, 1}
	odd := []int{0, 3, 61, -1, -9, math.MinInt, math.MaxInt}
	for i, c := range []struct {
		f          lists
		a, b, want []int
	}{
		{match.Then, all, all, []int{9, 21, 22, 41, 50}}, {match.Then, []int{9}, []int{5}, []int{9}}, {match.Then, []int{5}, []int{9}, nil}, {match.Then, []int{21, 21, 20}, []int{20, 20}, []int{21}}, {match.Then, []int{20}, []int{22}, nil}, {match.Then, []int{22}, []int{23}, []int{22}}, {match.Then, []int{41}, []int{40}, []int{41}}, {match.Then, []int{41}, []int{41}, nil}, {match.Then, []int{21}, []int{22, 23}, nil}, {match.Then, []int{2}, []int{42}, nil}, {match.Then, []int{44, 42, 5, 51}, odd, nil}, {match.Then, odd, odd, nil}, {match.Then, odd, all, nil}, {match.Then, all, nil, nil}, {match.Then, nil, all, nil},
		{match.Within, []int{20, 21, 22, 23}, []int{9}, []int{20, 21}}, {match.Within, []int{9}, []int{20, 21}, nil}, {match.Within, []int{9}, []int{9}, nil}, {match.Within, []int{9, 60}, []int{9, 60}, []int{9, 60}}, {match.Within, []int{23, 51, 42}, []int{51}, []int{23, 42}}, {match.Within, []int{51}, []int{1, 5}, []int{51}}, {match.Within, []int{21, 20, 22, 9, 5}, []int{50}, []int{20, 22}}, {match.Within, []int{41, 40, 40}, []int{40}, []int{41}}, {match.Within, []int{20}, []int{41}, []int{20}}, {match.Within, all, []int{22}, nil}, {match.Within, all, odd, nil}, {match.Within, odd, all, nil}, {match.Within, nil, all, nil}, {match.Within, all, nil, nil},
		{match.Has, all, all, []int{5, 9, 20, 21, 23, 42, 43, 44}}, {match.Has, all, []int{1}, []int{5, 23, 42, 44}}, {match.Has, []int{9, 9, 5}, []int{2}, []int{9}}, {match.Has, []int{9}, []int{9}, nil}, {match.Has, []int{2}, []int{9, 43}, nil}, {match.Has, []int{43, 21, 9, 20}, []int{2}, []int{9, 21, 43}}, {match.Has, []int{9, 5}, []int{60}, []int{9}}, {match.Has, []int{50, 51}, all, nil}, {match.Has, all, odd, nil}, {match.Has, odd, all, nil}, {match.Has, nil, nil, nil},
	} {
		if l := c.f(d, c.a, c.b); !slices.Equal(l, c.want) {
			t.Errorf("%d: %v, want %v", i, l, c.want)
		}
		// Numbers that are no Ids are ignored.
		if l := c.f(d, slices.Concat(odd, c.a), slices.Concat(odd, c.b)); !slices.Equal(l, c.want) {
			t.Errorf("%d: with other numbers: %v, want %v", i, l, c.want)
		}
		if l := c.f(sample.Of(), c.a, c.b); len(l) != 0 {
			t.Errorf("%d: without notes: %v", i, l)
		}
	}
}

// text, not and two make queries.
var text, not, two = sample.Find, sample.Not, sample.Two

// P36.2, P36.3
func TestEvalAndHolds(t *testing.T) {
	d := full()
	for s, want := range map[string][]int{
		"text:*": {5, 9}, "text:first": {9}, "text:*s*": {5, 9}, "word:*": {20, 21, 22, 23}, "word:?*": {20, 21, 23}, "word:b?": {21}, "word:ba": {21}, "word:b": nil, "word:x": nil, "morph:*": {40, 41, 43, 44}, "morph:?": {40, 41}, "gloss:*": {2, 42}, "gloss:PL": {2}, "gloss:pl": nil, "free:one": {60}, "free:\\*": nil,
		"(and word:?? word:*i)": {20}, "(and word:* morph:*)": nil, "(and word:ba word:mi)": nil, "(or word:ba gloss:PL)": {2, 21}, "(or word:x word:mi)": {20}, "(or word:* word:ba)": {20, 21, 22, 23},
		"(not word word:ba)": {20, 22, 23}, "(not word word:*)": nil, "(not word text:*)": {20, 21, 22, 23}, "(not free word:*)": {60}, "(not gloss (or gloss:PL word:*))": {42}, "(not word (not word word:ba))": {21}, "(not text (not word word:ba))": {5, 9}, "(not word (not text text:*))": {20, 21, 22, 23},
		"(then word:* word:mi)": {21}, "(then word:mi word:*)": nil, "(then text:* text:*)": {9}, "(then morph:m morph:i)": {41}, "(then word:* morph:*)": nil, "(then gloss:* gloss:*)": nil, "(then word:* word:*)": {21, 22},
		"(within word:* text:first)": {20, 21}, "(within text:first word:*)": nil, "(within word:mi morph:*)": {20}, "(within morph:* morph:*)": {40, 41}, "(within gloss:* word:*)": {2, 42}, "(within text:* free:*)": {9},
		"(has word:* gloss:PL)": {21}, "(has text:* word:tu)": {5}, "(has text:* free:one)": {9}, "(has gloss:PL word:*)": nil, "(has word:* word:*)": nil, "(has morph:* (not gloss gloss:PL))": {44},
		"(and word:ba* (not word (has word:* gloss:PL)))": nil, "(and word:* (not word (has word:* gloss:PL)))": {20, 22, 23}, "(then (has word:* gloss:*) (within word:* text:*))": {21}, "(or (has text:* word:mi) (has text:* gloss:PL))": {9},
	} {
		q, at, err := query.Parse(s)
		if err != api.OK {
			t.Fatal(s, at, err)
		}
		if l := match.Eval(d, q); !slices.Equal(l, want) {
			t.Errorf("%s: %v, want %v", s, l, want)
		}
		for id := -1; id < 70; id++ {
			if match.Holds(d, q, id) != slices.Contains(want, id) {
				t.Errorf("%s: Holds of %d", s, id)
			}
		}
		if match.Holds(d, q, math.MaxInt) || match.Holds(d, q, math.MinInt) || len(match.Eval(sample.Of(), q)) != 0 {
			t.Error(s)
		}
	}
	// Where there is no tier with the role, it has no notes.
	bare := api.Doc{Rec: d.Rec, Tiers: []api.Tier{{Name: "a", Parent: -1}, {Name: "b", Role: api.RoleText, Parent: -1}}, Notes: []api.Note{timed(1, 0, 0, 0, 5, "ba"), timed(2, 1, 0, 0, 5, "ba")}}
	for i, c := range []struct {
		q    api.Query
		want []int
	}{
		{text(api.RoleText, "ba"), []int{2}}, {text(api.RoleWord, "ba"), nil}, {text(api.RoleFree, "*"), nil}, {not(api.RoleWord, text(api.RoleText, "ba")), nil}, {not(api.RoleText, text(api.RoleWord, "ba")), []int{2}}, {two(api.OpWithin, text(api.RoleText, "*"), text(api.RoleGloss, "*")), nil},
	} {
		if l := match.Eval(bare, c.q); !slices.Equal(l, c.want) || tiers.Check(bare) != api.OK {
			t.Errorf("%d: without the tiers: %v", i, l)
		}
	}
}

// chain and where are what align.Chain and align.Where are defined as.
func chain(d api.Doc, id int) []int {
	n, ok := tiers.Get(d, id)
	if !ok {
		return nil
	}
	return append([]int{id}, chain(d, n.Parent)...)
}

func where(d api.Doc, id int) api.Span {
	n, _ := tiers.Get(d, id)
	if !tiertype.Aligned(d.Tiers, n.Tier) {
		return where(d, n.Parent)
	}
	return n.Span
}

// follows, lies and below are the conditions of Then, Within and Has, by their definitions.
func follows(d api.Doc, a, b int) bool {
	n, _ := tiers.Get(d, a)
	siblings := tiers.Kids(d, n.Parent, n.Tier)
	at := slices.Index(siblings, a)
	return at+1 < len(siblings) && siblings[at+1] == b
}

func lies(d api.Doc, a, b int) bool {
	s, room := where(d, a), where(d, b)
	return a != b && room.From <= s.From && s.To <= room.To
}

func below(d api.Doc, a, b int) bool {
	return a != b && slices.Contains(chain(d, b), a)
}

// chosen returns the notes of a for which there is one of b, by a condition.
func chosen(d api.Doc, a, b []int, holds func(d api.Doc, a, b int) bool) []int {
	var l []int
	for _, n := range d.Notes {
		if slices.Contains(a, n.Id) && slices.ContainsFunc(d.Notes, func(m api.Note) bool { return slices.Contains(b, m.Id) && holds(d, n.Id, m.Id) }) {
			l = append(l, n.Id)
		}
	}
	return l
}

// finds reports whether a query finds a note, from the definition.
func finds(d api.Doc, q api.Query, n api.Note) bool {
	some := func(holds func(d api.Doc, a, b int) bool) bool {
		return finds(d, q.Kids[0], n) && slices.ContainsFunc(d.Notes, func(m api.Note) bool { return holds(d, n.Id, m.Id) && finds(d, q.Kids[1], m) })
	}
	switch q.Op {
	case api.OpText:
		return d.Tiers[n.Tier].Role == q.Role && pattern.Match(q.Text, n.Text)
	case api.OpAnd:
		return finds(d, q.Kids[0], n) && finds(d, q.Kids[1], n)
	case api.OpOr:
		return finds(d, q.Kids[0], n) || finds(d, q.Kids[1], n)
	case api.OpNot:
		return d.Tiers[n.Tier].Role == q.Role && !finds(d, q.Kids[0], n)
	case api.OpThen:
		return some(follows)
	case api.OpWithin:
		return some(lies)
	}
	return some(below)
}

// P36.2, P36.3: of many documents and queries.
func TestManyQueries(t *testing.T) {
	random := rand.New(rand.NewSource(36))
	count := map[int]int{}
	for range 1000 {
		d := sample.Doc(random.Intn)
		for range 8 {
			q := sample.Query(random.Intn, 1+random.Intn(4), 1+random.Intn(5))
			var want []int
			for _, n := range d.Notes {
				if finds(d, q, n) {
					want = append(want, n.Id)
				}
			}
			l := match.Eval(d, q)
			if !slices.Equal(l, want) {
				t.Fatalf("%v in %v: %v, want %v", q, d, l, want)
			}
			if len(l) > 0 {
				count[q.Op]++
			}
			for _, id := range append(l, random.Intn(2000)) {
				if match.Holds(d, q, id) != slices.Contains(l, id) {
					t.Fatalf("%v in %v: Holds of %d", q, d, id)
				}
			}
		}
	}
	for op := api.OpText; op <= api.OpHas; op++ {
		if count[op] < 50 {
			t.Errorf("only %d queries with the operator %d find something", count[op], op)
		}
	}
}

// part returns some of the notes of a document, in no order, and numbers that are none.
func part(random *rand.Rand, d api.Doc) []int {
	l := []int{0, -1, 5000}
	few := 1 + random.Intn(4)
	for _, n := range d.Notes {
		if random.Intn(few) == 0 {
			l = append(l, n.Id)
		}
	}
	random.Shuffle(len(l), func(i, j int) { l[i], l[j] = l[j], l[i] })
	return append(l, l[0])
}

// subset reports whether all elements of a are in b.
func subset(a, b []int) bool {
	return !slices.ContainsFunc(a, func(n int) bool { return !slices.Contains(b, n) })
}

// P36.1, P36.4: of many lists.
func TestManyLists(t *testing.T) {
	random := rand.New(rand.NewSource(37))
	for range 300 {
		d := sample.Doc(random.Intn)
		a, b := part(random, d), part(random, d)
		for i, c := range []struct {
			f     lists
			holds func(d api.Doc, a, b int) bool
		}{{match.Then, follows}, {match.Within, lies}, {match.Has, below}} {
			l := c.f(d, a, b)
			if want := chosen(d, a, b, c.holds); !slices.Equal(l, want) {
				t.Fatalf("%d: %v and %v in %v: %v, want %v", i, a, b, d, l, want)
			}
			if more := c.f(d, append(part(random, d), a...), append(part(random, d), b...)); !subset(l, a) || !subset(l, more) {
				t.Fatalf("%d: %v and %v in %v: %v, with more notes %v", i, a, b, d, l, more)
			}
		}
		// If Has finds a note for another one, Within finds the other one for it.
		for _, n := range d.Notes {
			for _, above := range match.Has(d, a, []int{n.Id}) {
				if l := match.Within(d, []int{n.Id}, []int{above}); !slices.Equal(l, []int{n.Id}) {
					t.Fatalf("%d is below %d in %v, and not within it", n.Id, above, d)
				}
			}
		}
	}
}

// P36.4: what holds of any queries.
func TestLaws(t *testing.T) {
	random := rand.New(rand.NewSource(38))
	for range 400 {
		d := sample.Doc(random.Intn)
		role := 1 + random.Intn(5)
		a, b, c := sample.Query(random.Intn, 3, role), sample.Query(random.Intn, 2, 1+random.Intn(5)), sample.Query(random.Intn, 2, role)
		eval := func(q api.Query) []int { return match.Eval(d, q) }
		inRole := eval(two(api.OpAnd, a, text(role, "*")))
		for i, p := range [][2][]int{
			{eval(two(api.OpAnd, a, a)), eval(a)}, {eval(two(api.OpOr, a, a)), eval(a)}, {eval(not(role, not(role, a))), inRole}, {eval(not(role, two(api.OpOr, a, b))), eval(two(api.OpAnd, not(role, a), not(role, b)))},
		} {
			if !slices.Equal(p[0], p[1]) {
				t.Fatalf("law %d of %v and %v in %v: %v, %v", i, a, b, d, p[0], p[1])
			}
		}
		for _, op := range []int{api.OpThen, api.OpWithin, api.OpHas} {
			l := eval(two(op, a, b))
			more := eval(two(op, two(api.OpOr, a, c), two(api.OpOr, c, b)))
			if !subset(l, eval(a)) || !subset(l, more) {
				t.Fatalf("the operator %d of %v and %v in %v: %v, with more %v", op, a, b, d, l, more)
			}
		}
	}
}

// R5: arguments stay as they are.
func TestMemory(t *testing.T) {
	d := full()
	a, b := []int{23, 20, 21, 20, 9}, []int{44, 9, 20, 2}
	for _, f := range []lists{match.Then, match.Within, match.Has} {
		clear(f(d, a, b))
	}
	clear(match.Eval(d, text(api.RoleWord, "*")))
	if !slices.Equal(a, []int{23, 20, 21, 20, 9}) || !slices.Equal(b, []int{44, 9, 20, 2}) || !tiers.Same(d, full()) {
		t.Error(a, b, d)
	}
}

// The largest queries in the largest documents do not take long.
func TestLargest(t *testing.T) {
	d := api.Doc{Rec: api.Recording{Id: 1, Length: api.MaxMs}, Tiers: tiertype.Standard(), Notes: []api.Note{timed(1, 0, 0, 0, api.MaxMs, "")}}
	for i := range api.MaxNotes - 1 {
		d.Notes = append(d.Notes, timed(i+2, 1, 1, i, i+1, fmt.Sprint(i)))
	}
	for _, op := range []int{api.OpThen, api.OpWithin, api.OpHas} {
		q := text(api.RoleWord, "*")
		for range api.MaxDepth - 1 {
			q = two(op, q, text(api.RoleWord, "*"))
		}
		if query.Check(q) != api.OK {
			t.Fatal(q)
		}
		want := 0
		if op == api.OpThen {
			want = api.MaxNotes - 2
		}
		if l := match.Eval(d, q); len(l) != want {
			t.Errorf("the operator %d: %d notes", op, len(l))
		}
	}
}

// The functions end for queries and documents that are not right, too.
func TestWhatIsNotRight(t *testing.T) {
	endless := two(api.OpAnd, text(api.RoleWord, "*"), text(api.RoleWord, "*"))
	endless.Kids[1] = endless
	for i, q := range []api.Query{endless, {Op: 7}, {Op: -1}, {Op: api.OpNot, Role: api.RoleWord}, {Op: api.OpAnd}, {Op: api.OpHas, Kids: make([]api.Query, 1)}, text(0, "*"), text(9, "*"), text(api.RoleWord, "\\"), not(0, text(api.RoleWord, "*"))} {
		if l := match.Eval(full(), q); len(l) != 0 || match.Holds(full(), q, 20) {
			t.Errorf("%d: %v", i, l)
		}
	}
	cycle := api.Doc{Tiers: []api.Tier{{Kind: api.TierSeries, Role: api.RoleText, Parent: 1}, {Kind: api.TierSeries, Role: api.RoleWord, Parent: 0}}, Notes: []api.Note{plain(1, 0, 1, 0, "a"), plain(2, 1, 3, 0, "b"), plain(3, 0, 2, 0, "c"), plain(4, 9, 0, 0, ""), plain(4, -1, 0, 0, ""), plain(0, 0, 5, 0, "")}}
	for _, d := range []api.Doc{cycle, {Notes: cycle.Notes}} {
		for _, op := range []int{api.OpThen, api.OpWithin, api.OpHas} {
			match.Eval(d, two(op, text(api.RoleText, "*"), not(api.RoleWord, text(api.RoleText, "*"))))
		}
		for _, f := range []lists{match.Then, match.Within, match.Has} {
			f(d, []int{0, 1, 2, 3, 4}, []int{4, 3, 2, 1, 0})
		}
	}
}
