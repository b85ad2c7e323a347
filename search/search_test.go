package search_test

import (
	"fmt"
	"math"
	"math/rand"
	"slices"
	"strings"
	"testing"

	"langdoc/api"
	"langdoc/index"
	"langdoc/match"
	"langdoc/pattern"
	"langdoc/query"
	"langdoc/sample"
	"langdoc/search"
	"langdoc/tiers"
	"langdoc/tiertype"
)

// text, not and two make queries.
var text, not, two = sample.Find, sample.Not, sample.Two

func post(role int, text string, ids ...int) api.Posting {
	return api.Posting{Role: role, Text: text, Ids: ids}
}

// some returns a right index with an Id in several postings, Ids of all signs, and texts that are not valid.
func some() api.Index {
	return api.Index{Posts: []api.Posting{
		post(api.RoleText, "", -4, 9), post(api.RoleText, "b*", 9, 10),
		post(api.RoleWord, "", 8), post(api.RoleWord, "ba", 3, 5, 9), post(api.RoleWord, "bami", 1, 9), post(api.RoleWord, "mi", 2, 4), post(api.RoleWord, "\xff", -7, 9),
		post(api.RoleGloss, "\xff\xfe", 1, 2), post(api.RoleFree, "ba", math.MinInt, 0, math.MaxInt),
	}}
}

// P38.1
func TestTextAndCount(t *testing.T) {
	if index.Check(some()) != api.OK {
		t.Fatal("the index of the tests is not right")
	}
	for i, c := range []struct {
		role    int
		pattern string
		want    []int
	}{
		{api.RoleWord, "*", []int{1, 2, 3, 4, 5, 8, 9}}, {api.RoleWord, "ba*", []int{1, 3, 5, 9}}, {api.RoleWord, "*mi", []int{1, 2, 4, 9}}, {api.RoleWord, "?i", []int{2, 4}}, {api.RoleWord, "??", []int{2, 3, 4, 5, 9}}, {api.RoleWord, "ba", []int{3, 5, 9}}, {api.RoleWord, "b", nil}, {api.RoleWord, "ba ", nil}, {api.RoleWord, "**", []int{1, 2, 3, 4, 5, 8, 9}},
		{api.RoleText, "*", []int{-4, 9, 10}}, {api.RoleText, "b*", []int{9, 10}}, {api.RoleText, "b\\*", []int{9, 10}}, {api.RoleText, "b\\?", nil}, {api.RoleText, "??", []int{9, 10}}, {api.RoleText, "\\*", nil}, {api.RoleFree, "b?", []int{math.MinInt, 0, math.MaxInt}}, {api.RoleMorph, "*", nil}, {api.RoleNone, "*", nil}, {-1, "ba", nil}, {6, "*", nil},
		// No patterns, and texts that no pattern matches.
		{api.RoleText, "", nil}, {api.RoleWord, "", nil}, {api.RoleWord, "ba\\", nil}, {api.RoleWord, "\\ba", nil}, {api.RoleWord, "\xff", nil}, {api.RoleWord, "?\n", nil}, {api.RoleGloss, "*", nil}, {api.RoleGloss, "\xff\xfe", nil}, {api.RoleWord, strings.Repeat("*", 65), nil}, {api.RoleWord, strings.Repeat("*", 63) + "i", []int{1, 2, 4, 9}},
	} {
		if l := search.Text(some(), c.role, c.pattern); !slices.Equal(l, c.want) {
			t.Errorf("%d: Text: %v, want %v", i, l, c.want)
		}
	}
	for role, want := range map[int]int{api.RoleText: 3, api.RoleWord: 8, api.RoleMorph: 0, api.RoleGloss: 2, api.RoleFree: 3, api.RoleNone: 0, 6: 0, -1: 0, math.MaxInt: 0} {
		if n := search.Count(some(), role); n != want {
			t.Errorf("Count of %d: %d", role, n)
		}
	}
	if len(search.Text(api.Index{}, api.RoleWord, "*")) != 0 || search.Count(api.Index{}, api.RoleWord) != 0 {
		t.Error("an empty index")
	}
}

// P38.2, and the example of the chapter.
func TestBound(t *testing.T) {
	for s, want := range map[string]int{
		"word:*": 7, "word:ba": 3, "word:x": 0, "morph:*": 0, "text:*": 3, "gloss:*": 0, "free:b?": 3,
		"(and word:ba word:mi)": 2, "(and word:mi word:ba)": 2, "(and word:* word:x)": 0, "(and word:ba word:ba)": 3, "(or word:ba word:mi)": 5, "(or word:ba word:ba*)": 7, "(or word:x gloss:*)": 0,
		"(not word word:*)": 8, "(not word text:x)": 8, "(not gloss word:ba)": 2, "(not morph word:*)": 0, "(then word:mi word:*)": 2, "(then word:* word:mi)": 7, "(within word:ba text:x)": 3, "(within text:x word:ba)": 0, "(has text:* word:mi)": 3, "(has word:mi text:*)": 2,
		"(and (or word:ba word:mi) (not gloss word:x))": 2, "(or (and word:ba word:mi) (has word:* gloss:*))": 9, "(then (not word word:*) word:x)": 8, "(not text (or word:ba word:mi))": 3,
	} {
		q, at, err := query.Parse(s)
		if err != api.OK {
			t.Fatal(s, at, err)
		}
		if n := search.Bound(some(), q); n != want {
			t.Errorf("Bound of %s: %d, want %d", s, n, want)
		}
		if n := search.Bound(api.Index{}, q); n != 0 {
			t.Errorf("Bound of %s in an empty index: %d", s, n)
		}
	}
	x := api.Index{Posts: []api.Posting{post(api.RoleWord, "ba", 1), post(api.RoleWord, "mi", 2, 3)}}
	if n := search.Bound(x, two(api.OpAnd, text(api.RoleWord, "ba"), text(api.RoleWord, "mi"))); n != 1 {
		t.Error("the example of the chapter:", n)
	}
}

// full returns a right document in which the word 22 has no text.
func full() api.Doc {
	return sample.Of(
		sample.Plain(2, sample.Gloss, 43, 0, "PL"), sample.Timed(5, sample.Text, 0, 8, 12, "second"), sample.Timed(9, sample.Text, 0, 0, 8, "first"),
		sample.Timed(20, sample.Word, 9, 5, 7, "mi"), sample.Timed(21, sample.Word, 9, 1, 4, "ba"), sample.Timed(22, sample.Word, 5, 8, 9, ""), sample.Timed(23, sample.Word, 5, 10, 12, "ba"),
		sample.Plain(40, sample.Morph, 20, 1, "i"), sample.Plain(41, sample.Morph, 20, 0, "m"), sample.Plain(43, sample.Morph, 21, 0, "ba"), sample.Timed(50, sample.Other, 0, 3, 9, "ba"), sample.Plain(60, sample.Free, 9, 0, "one"),
	)
}

// P38.3
func TestRun(t *testing.T) {
	d := full()
	if err := tiers.Check(d); err != api.OK {
		t.Fatal(err)
	}
	for s, want := range map[string][]int{
		"word:ba": {21, 23}, "word:*": {20, 21, 22, 23}, "word:?*": {20, 21, 23}, "word:x": nil, "morph:?": {40, 41}, "gloss:*": {2}, "free:o*": {60}, "text:*s*": {5, 9},
		"(and word:?? word:*i)": {20}, "(and word:ba morph:ba)": nil, "(or word:ba gloss:PL)": {2, 21, 23}, "(not word word:ba)": {20, 22}, "(not word (not word word:ba))": {21, 23}, "(not gloss gloss:PL)": nil, "(then word:* word:mi)": {21}, "(then text:* text:*)": {9}, "(then morph:* morph:*)": {41}, "(within word:ba text:first)": {21}, "(within gloss:* word:ba)": {2}, "(has word:ba morph:*)": {21}, "(has text:* word:ba)": {5, 9}, "(has morph:* (not gloss word:*))": {43}, "(or (has text:* free:*) (then word:* word:ba))": {9, 22},
	} {
		q, at, err := query.Parse(s)
		if err != api.OK {
			t.Fatal(s, at, err)
		}
		if l := search.Run(index.Build(d), d, q); !slices.Equal(l, want) {
			t.Errorf("%s: %v, want %v", s, l, want)
		}
		if l := search.Run(api.Index{}, sample.Of(), q); len(l) != 0 {
			t.Errorf("%s without notes: %v", s, l)
		}
	}
}

// P38.4
func TestAll(t *testing.T) {
	d := full()
	e := sample.Of(sample.Timed(1, sample.Text, 0, 0, 9, ""), sample.Timed(3, sample.Word, 1, 5, 6, "ba"), sample.Timed(4, sample.Word, 1, 2, 5, "ba"))
	e.Rec.Id = 1
	x, y := index.Build(d), index.Build(e)
	ofD, ofE := []api.Ref{{Rec: 3, Note: 21}, {Rec: 3, Note: 23}}, []api.Ref{{Rec: 1, Note: 3}, {Rec: 1, Note: 4}}
	for i, c := range []struct {
		xs   []api.Index
		docs []api.Doc
		want []api.Ref
	}{
		{[]api.Index{x}, []api.Doc{d}, ofD}, {[]api.Index{x, y}, []api.Doc{d, e}, slices.Concat(ofD, ofE)}, {[]api.Index{y, x}, []api.Doc{e, d}, slices.Concat(ofE, ofD)}, {[]api.Index{x, {}, x}, []api.Doc{d, sample.Of(), d}, slices.Concat(ofD, ofD)}, {nil, nil, nil},
		{[]api.Index{x, y}, []api.Doc{d}, nil}, {[]api.Index{x}, []api.Doc{d, e}, nil}, {nil, []api.Doc{d}, nil}, {[]api.Index{x}, nil, nil},
	} {
		if l := search.All(c.xs, c.docs, text(api.RoleWord, "ba")); !slices.Equal(l, c.want) {
			t.Errorf("%d: All: %v, want %v", i, l, c.want)
		}
		if l := search.All(c.xs, c.docs, text(api.RoleWord, "x")); len(l) != 0 {
			t.Errorf("%d: All of what is nowhere: %v", i, l)
		}
	}
}

// bound is Bound, from the definition.
func bound(d api.Doc, q api.Query) int {
	switch q.Op {
	case api.OpText:
		return len(match.Eval(d, q))
	case api.OpAnd:
		return min(bound(d, q.Kids[0]), bound(d, q.Kids[1]))
	case api.OpOr:
		return bound(d, q.Kids[0]) + bound(d, q.Kids[1])
	case api.OpNot:
		return len(match.Eval(d, text(q.Role, "*")))
	}
	return bound(d, q.Kids[0])
}

// P38.1 to P38.5: of many documents and queries, also with indexes that were updated.
func TestManyQueries(t *testing.T) {
	random := rand.New(rand.NewSource(38))
	found := 0
	var former api.Doc
	var xs []api.Index
	var docs []api.Doc
	for range 500 {
		d := sample.Doc(random.Intn)
		x := index.Build(d)
		updated := index.Update(index.Build(former), former, d)
		xs, docs = append(xs, x), append(docs, d)
		for range 8 {
			role := 1 + random.Intn(5)
			q, r := sample.Query(random.Intn, 1+random.Intn(4), role), sample.Query(random.Intn, 2, role)
			l := search.Run(x, d, q)
			if want := match.Eval(d, q); !slices.Equal(l, want) || !slices.Equal(search.Run(updated, d, q), want) {
				t.Fatalf("%v in %v: %v, want %v", q, d, l, want)
			}
			if n := search.Bound(x, q); n != bound(d, q) || len(l) > n {
				t.Fatalf("Bound of %v in %v: %d, want %d", q, d, n, bound(d, q))
			}
			checkBoth(t, d, x, q, r)
			found += len(l)
		}
		for role := range 7 {
			checkTexts(t, d, x, role)
		}
		former = d
	}
	if found < 3000 {
		t.Error("only", found, "notes were found")
	}
	q := two(api.OpHas, text(api.RoleWord, "*"), text(api.RoleMorph, "*"))
	var want []api.Ref
	for _, d := range docs {
		for _, id := range match.Eval(d, q) {
			want = append(want, api.Ref{Rec: d.Rec.Id, Note: id})
		}
	}
	if l := search.All(xs, docs, q); !slices.Equal(l, want) || len(l) == 0 {
		t.Errorf("All of %v: %d references, want %d", q, len(l), len(want))
	}
}

// checkBoth checks what OpAnd and OpOr find against what their Kids find.
func checkBoth(t *testing.T, d api.Doc, x api.Index, q, r api.Query) {
	a, b := search.Run(x, d, q), search.Run(x, d, r)
	and, or := search.Run(x, d, two(api.OpAnd, q, r)), search.Run(x, d, two(api.OpOr, q, r))
	for _, n := range d.Notes {
		inA, inB := slices.Contains(a, n.Id), slices.Contains(b, n.Id)
		if slices.Contains(and, n.Id) != (inA && inB) || slices.Contains(or, n.Id) != (inA || inB) {
			t.Fatalf("%v and %v find %v and %v in %v, both %v, one of them %v", q, r, a, b, d, and, or)
		}
	}
}

// checkTexts checks Text and Count of a role against the notes of the document.
func checkTexts(t *testing.T, d api.Doc, x api.Index, role int) {
	for _, p := range []string{"*", "ba", "b*", "?i", "ba mi", "\\", ""} {
		var want []int
		count := 0
		for _, n := range d.Notes {
			if role == api.RoleNone || d.Tiers[n.Tier].Role != role {
				continue
			}
			count++
			if pattern.Match(p, n.Text) {
				want = append(want, n.Id)
			}
		}
		if l := search.Text(x, role, p); !slices.Equal(l, want) || search.Count(x, role) != count {
			t.Fatalf("Text of %d and %q in %v: %v, want %v", role, p, d, l, want)
		}
	}
}

// The largest queries in the largest documents do not take long.
func TestLargest(t *testing.T) {
	d := api.Doc{Rec: api.Recording{Id: 1, Length: api.MaxMs}, Tiers: tiertype.Standard(), Notes: []api.Note{sample.Timed(1, 0, 0, 0, api.MaxMs, "")}}
	for i := range api.MaxNotes - 1 {
		d.Notes = append(d.Notes, sample.Timed(i+2, 1, 1, i, i+1, fmt.Sprint(i)))
	}
	x := index.Build(d)
	for op, want := range map[int]int{api.OpThen: api.MaxNotes - 2, api.OpWithin: 0, api.OpHas: 0, api.OpOr: api.MaxNotes - 1} {
		q := text(api.RoleWord, "*")
		for range api.MaxDepth - 1 {
			q = two(op, q, text(api.RoleWord, "*"))
		}
		if l := search.Run(x, d, q); query.Check(q) != api.OK || len(l) != want || search.Bound(x, q) < len(l) {
			t.Errorf("the operator %d: %d notes", op, len(l))
		}
	}
}

// R5: arguments stay as they are, and results are new memory.
func TestMemory(t *testing.T) {
	d, x := full(), index.Build(full())
	for _, p := range []string{"ba", "*"} {
		clear(search.Text(x, api.RoleWord, p))
		clear(search.Run(x, d, text(api.RoleWord, p)))
		clear(search.Run(x, d, not(api.RoleText, text(api.RoleWord, p))))
	}
	if !tiers.Same(d, full()) || !index.Same(x, index.Build(full())) {
		t.Error(d, x)
	}
}

// The functions end for queries, indexes and documents that are not right, too.
func TestWhatIsNotRight(t *testing.T) {
	d, x := full(), index.Build(full())
	endless := two(api.OpAnd, text(api.RoleWord, "*"), text(api.RoleWord, "*"))
	endless.Kids[1] = endless
	for i, q := range []api.Query{endless, {Op: 7}, {Op: -1}, {Op: api.OpNot, Role: api.RoleWord}, {Op: api.OpAnd}, {Op: api.OpHas, Kids: make([]api.Query, 1)}, text(0, "*"), text(9, "*"), text(api.RoleWord, "\\"), not(0, text(api.RoleWord, "*"))} {
		if l := search.Run(x, d, q); len(l) != 0 || search.Bound(x, q) != 0 || len(search.All([]api.Index{x}, []api.Doc{d}, q)) != 0 {
			t.Errorf("%d: %v", i, l)
		}
	}
	mixed := api.Index{Posts: []api.Posting{post(9, "z"), post(api.RoleWord, "ba", 5, 2, 2), post(0, "", 3), post(api.RoleWord, "ba", 1)}}
	cycle := api.Doc{Tiers: []api.Tier{{Kind: api.TierSeries, Role: api.RoleWord, Parent: 0}}, Notes: []api.Note{sample.Plain(2, 0, 2, 0, "ba"), sample.Plain(1, 0, 5, 0, "ba"), sample.Plain(5, 9, 1, 0, "")}}
	for _, op := range []int{api.OpAnd, api.OpOr, api.OpThen, api.OpWithin, api.OpHas} {
		q := two(op, text(api.RoleWord, "ba"), not(api.RoleWord, text(api.RoleWord, "b*")))
		search.Run(mixed, cycle, q)
		search.Bound(mixed, q)
	}
}
