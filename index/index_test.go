package index_test

import (
	"cmp"
	"math"
	"math/rand"
	"slices"
	"strings"
	"testing"

	"langdoc/api"
	"langdoc/index"
	"langdoc/pattern"
	"langdoc/sample"
	"langdoc/tiers"
)

// post returns a posting, and of an index of postings.
func post(role int, text string, ids ...int) api.Posting {
	return api.Posting{Role: role, Text: text, Ids: ids}
}

func of(l ...api.Posting) api.Index {
	return api.Index{Posts: l}
}

// some returns a right index.
func some() api.Index {
	return of(post(api.RoleText, "", 4), post(api.RoleText, "z", -4, 0, 9), post(api.RoleWord, "ba", 3, 5), post(api.RoleWord, "bami", 1), post(api.RoleWord, "mi", 2), post(api.RoleGloss, "ba", 7), post(api.RoleFree, "\xff", 8))
}

// P37.1
func TestCheck(t *testing.T) {
	ba := post(api.RoleWord, "ba", 3, 5)
	for i, c := range []struct {
		x   api.Index
		err api.Errno
	}{
		{of(), api.OK}, {some(), api.OK}, {of(ba), api.OK}, {of(post(api.RoleText, "", math.MinInt, -1, 0, math.MaxInt), post(api.RoleFree, "\xff\n", 0)), api.OK},
		{of(post(api.RoleNone, "a", 1)), api.ErrRange}, {of(post(api.RoleFree+1, "a", 1)), api.ErrRange}, {of(post(-1, "a")), api.ErrRange}, {of(post(math.MaxInt, "a")), api.ErrRange}, {of(post(math.MinInt, "a", 2, 1)), api.ErrRange}, {of(ba, post(0, "a")), api.ErrRange}, {of(ba, post(6, "c", 1)), api.ErrRange},
		{of(ba, ba), api.ErrOrder}, {of(ba, post(api.RoleWord, "ba", 9)), api.ErrOrder}, {of(ba, post(api.RoleWord, "b")), api.ErrOrder}, {of(ba, post(api.RoleText, "z", 1)), api.ErrOrder}, {of(ba, post(api.RoleWord, "Z", 1)), api.ErrOrder}, {of(ba, post(api.RoleWord, "baa", 1)), api.OK}, {of(ba, post(api.RoleMorph, "", 1)), api.OK}, {of(ba, post(api.RoleWord, "ba\x00", 1)), api.OK},
		{of(post(api.RoleText, "a")), api.ErrShort}, {of(ba, post(api.RoleWord, "c"), post(0, "")), api.ErrShort},
		{of(post(api.RoleText, "a", 5, 5)), api.ErrOrder}, {of(post(api.RoleText, "a", 5, 4)), api.ErrOrder}, {of(post(api.RoleText, "a", 1, 5, 2)), api.ErrOrder}, {of(ba, post(api.RoleWord, "c", 3, 2), post(0, "")), api.ErrOrder},
	} {
		if err := index.Check(c.x); err != c.err {
			t.Errorf("%d: Check = %d, want %d", i, err, c.err)
		}
	}
}

// P37.3
func TestFindAndTexts(t *testing.T) {
	for _, p := range some().Posts {
		if l := index.Find(some(), p.Role, p.Text); !slices.Equal(l, p.Ids) {
			t.Errorf("Find of %v: %v", p, l)
		}
	}
	for _, p := range []api.Posting{post(api.RoleWord, ""), post(api.RoleWord, "b"), post(api.RoleWord, "bam"), post(api.RoleWord, "z"), post(api.RoleMorph, "ba"), post(api.RoleText, "ba"), post(api.RoleNone, ""), post(-1, "ba"), post(math.MaxInt, "")} {
		if l := index.Find(some(), p.Role, p.Text); len(l) != 0 {
			t.Errorf("Find of %v: %v", p, l)
		}
	}
	for i, c := range []struct {
		role    int
		pattern string
		want    []string
	}{
		{api.RoleWord, "*", []string{"ba", "bami", "mi"}}, {api.RoleWord, "ba*", []string{"ba", "bami"}}, {api.RoleWord, "*mi", []string{"bami", "mi"}}, {api.RoleWord, "?i", []string{"mi"}}, {api.RoleWord, "ba", []string{"ba"}}, {api.RoleWord, "x", nil}, {api.RoleText, "*", []string{"", "z"}}, {api.RoleText, "?", []string{"z"}}, {api.RoleGloss, "*", []string{"ba"}}, {api.RoleMorph, "*", nil}, {api.RoleNone, "*", nil}, {99, "*", nil},
		// No pattern, and a text that is not valid, which no pattern matches.
		{api.RoleWord, "", nil}, {api.RoleText, "", nil}, {api.RoleWord, "\\", nil}, {api.RoleWord, "b\\a", nil}, {api.RoleFree, "*", nil}, {api.RoleFree, "\xff", nil}, {api.RoleWord, strings.Repeat("*", 65), nil}, {api.RoleWord, strings.Repeat("*", 64), []string{"ba", "bami", "mi"}},
	} {
		if l := index.Texts(some(), c.role, c.pattern); !slices.Equal(l, c.want) {
			t.Errorf("%d: Texts: %q, want %q", i, l, c.want)
		}
	}
	if len(index.Find(of(), api.RoleText, "")) != 0 || len(index.Texts(of(), api.RoleText, "*")) != 0 {
		t.Error("an empty index")
	}
}

// P37.4
func TestPutAndTake(t *testing.T) {
	p := some().Posts
	for i, c := range []struct {
		role int
		text string
		id   int
		want api.Index
	}{
		{api.RoleWord, "ba", 4, of(p[0], p[1], post(api.RoleWord, "ba", 3, 4, 5), p[3], p[4], p[5], p[6])}, {api.RoleWord, "ba", math.MinInt, of(p[0], p[1], post(api.RoleWord, "ba", math.MinInt, 3, 5), p[3], p[4], p[5], p[6])}, {api.RoleWord, "ba", 6, of(p[0], p[1], post(api.RoleWord, "ba", 3, 5, 6), p[3], p[4], p[5], p[6])}, {api.RoleFree, "\xff", 7, of(p[0], p[1], p[2], p[3], p[4], p[5], post(api.RoleFree, "\xff", 7, 8))},
		{api.RoleWord, "bam", 3, of(p[0], p[1], p[2], post(api.RoleWord, "bam", 3), p[3], p[4], p[5], p[6])}, {api.RoleText, "\n", 3, of(p[0], post(api.RoleText, "\n", 3), p[1], p[2], p[3], p[4], p[5], p[6])}, {api.RoleMorph, "", 3, of(p[0], p[1], p[2], p[3], p[4], post(api.RoleMorph, "", 3), p[5], p[6])}, {api.RoleFree, "\xff\xff", 0, of(append(some().Posts, post(api.RoleFree, "\xff\xff", 0))...)}, {api.RoleWord, "", 3, of(p[0], p[1], post(api.RoleWord, "", 3), p[2], p[3], p[4], p[5], p[6])},
		// What is there already, and roles that have no postings.
		{api.RoleWord, "ba", 3, some()}, {api.RoleWord, "ba", 5, some()}, {api.RoleText, "z", 0, some()}, {api.RoleNone, "ba", 3, some()}, {api.RoleFree + 1, "ba", 3, some()}, {-1, "", 3, some()}, {math.MaxInt, "", 3, some()}, {math.MinInt, "", 3, some()},
	} {
		x := index.Put(some(), c.role, c.text, c.id)
		if !index.Same(x, c.want) || index.Check(x) != api.OK {
			t.Errorf("%d: Put: %v, want %v", i, x, c.want)
		}
		if back := index.Take(x, c.role, c.text, c.id); !index.Same(c.want, some()) && !index.Same(back, some()) {
			t.Errorf("%d: Take after Put: %v", i, back)
		}
	}
	for i, c := range []struct {
		role int
		text string
		id   int
		want api.Index
	}{
		{api.RoleWord, "ba", 3, of(p[0], p[1], post(api.RoleWord, "ba", 5), p[3], p[4], p[5], p[6])}, {api.RoleText, "z", 0, of(p[0], post(api.RoleText, "z", -4, 9), p[2], p[3], p[4], p[5], p[6])}, {api.RoleText, "z", 9, of(p[0], post(api.RoleText, "z", -4, 0), p[2], p[3], p[4], p[5], p[6])}, {api.RoleText, "", 4, of(p[1:]...)}, {api.RoleWord, "mi", 2, of(p[0], p[1], p[2], p[3], p[5], p[6])}, {api.RoleFree, "\xff", 8, of(p[:6]...)},
		{api.RoleWord, "ba", 4, some()}, {api.RoleWord, "mi", 3, some()}, {api.RoleWord, "b", 3, some()}, {api.RoleMorph, "ba", 3, some()}, {api.RoleNone, "", 4, some()}, {99, "ba", 3, some()}, {-1, "", 0, some()},
	} {
		if x := index.Take(some(), c.role, c.text, c.id); !index.Same(x, c.want) || index.Check(x) != api.OK {
			t.Errorf("%d: Take: %v, want %v", i, x, c.want)
		}
	}
	if x := index.Take(index.Put(of(), api.RoleText, "", 0), api.RoleText, "", 0); len(x.Posts) != 0 {
		t.Error("Take of the only Id:", x)
	}
}

// P37.2, P37.5
func TestBuildAndUpdate(t *testing.T) {
	note := func(id, tier, parent, rank int, text string) api.Note {
		return api.Note{Id: id, Tier: tier, Parent: parent, Rank: rank, Text: text}
	}
	timed := func(id, tier, parent, from, to int, text string) api.Note {
		return api.Note{Id: id, Tier: tier, Parent: parent, Span: api.Span{From: from, To: to}, Text: text}
	}
	d := sample.Of(timed(1, sample.Other, 0, 0, 3, "ba"), timed(2, sample.Text, 0, 0, 9, ""), timed(3, sample.Word, 2, 4, 5, "ba"), timed(5, sample.Word, 2, 1, 2, "ba"), timed(6, sample.Word, 2, 6, 7, ""), note(7, sample.Morph, 3, 0, "ba"), note(8, sample.Gloss, 7, 0, "dog"), note(9, sample.Free, 2, 0, "ba"), note(10, sample.Deep, 8, 0, "ba"), timed(11, sample.Bit, 5, 1, 2, "ba"))
	if err := tiers.Check(d); err != api.OK {
		t.Fatal(err)
	}
	x := of(post(api.RoleText, "", 2), post(api.RoleWord, "", 6), post(api.RoleWord, "ba", 3, 5), post(api.RoleMorph, "ba", 7), post(api.RoleGloss, "dog", 8), post(api.RoleFree, "ba", 9))
	if got := index.Build(d); !index.Same(got, x) {
		t.Fatal("Build:", got)
	}
	if len(index.Build(sample.Of()).Posts) != 0 || len(index.Build(api.Doc{}).Posts) != 0 {
		t.Error("Build without notes")
	}
	// One word is new, one has another text, one is gone; the same Id may have another role.
	next := sample.Of(timed(2, sample.Text, 0, 0, 9, ""), timed(3, sample.Word, 2, 4, 5, "mi"), timed(4, sample.Word, 2, 5, 7, "ba"), timed(5, sample.Word, 2, 1, 2, "ba"), note(6, sample.Free, 2, 0, ""))
	want := of(post(api.RoleText, "", 2), post(api.RoleWord, "ba", 4, 5), post(api.RoleWord, "mi", 3), post(api.RoleFree, "", 6))
	if got := index.Update(x, d, next); !index.Same(got, want) || !index.Same(got, index.Build(next)) {
		t.Error("Update:", got)
	}
	// Of any right index: what is taken out need not be there, and what is put in may be.
	if got := index.Update(some(), d, next); !index.Same(got, of(post(api.RoleText, "", 2, 4), post(api.RoleText, "z", -4, 0, 9), post(api.RoleWord, "ba", 4, 5), post(api.RoleWord, "bami", 1), post(api.RoleWord, "mi", 2, 3), post(api.RoleGloss, "ba", 7), post(api.RoleFree, "", 6), post(api.RoleFree, "\xff", 8))) {
		t.Error("Update of another index:", got)
	}
	if got := index.Update(x, d, api.Doc{}); len(got.Posts) != 0 {
		t.Error("Update to nothing:", got)
	}
}

// P37.6
func TestSame(t *testing.T) {
	if !index.Same(some(), some()) || !index.Same(of(), api.Index{Posts: []api.Posting{}}) || !index.Same(of(post(9, "a")), of(api.Posting{Role: 9, Text: "a", Ids: []int{}})) {
		t.Error("equal indexes")
	}
	for i, turn := range []func(x *api.Index){
		func(x *api.Index) { x.Posts = x.Posts[1:] }, func(x *api.Index) { x.Posts = nil }, func(x *api.Index) { x.Posts[3].Role++ }, func(x *api.Index) { x.Posts[3].Text = "x" }, func(x *api.Index) { x.Posts[1].Ids[2]++ }, func(x *api.Index) { x.Posts[1].Ids = x.Posts[1].Ids[:2] }, func(x *api.Index) { x.Posts[0].Ids = nil }, func(x *api.Index) { x.Posts[0], x.Posts[1] = x.Posts[1], x.Posts[0] },
	} {
		x := some()
		turn(&x)
		if index.Same(x, some()) || index.Same(some(), x) || !index.Same(x, x) {
			t.Error("change", i)
		}
	}
}

// built returns the index of a document, from the definition.
func built(d api.Doc) api.Index {
	var x api.Index
	for _, n := range d.Notes {
		role := d.Tiers[n.Tier].Role
		if role == api.RoleNone {
			continue
		}
		i := slices.IndexFunc(x.Posts, func(p api.Posting) bool { return p.Role == role && p.Text == n.Text })
		if i < 0 {
			i = len(x.Posts)
			x.Posts = append(x.Posts, post(role, n.Text))
		}
		x.Posts[i].Ids = append(x.Posts[i].Ids, n.Id)
	}
	slices.SortFunc(x.Posts, func(p, q api.Posting) int {
		return cmp.Or(cmp.Compare(p.Role, q.Role), strings.Compare(p.Text, q.Text))
	})
	return x
}

// P37.2, P37.3, P37.5, P37.7: of many documents.
func TestManyDocuments(t *testing.T) {
	random := rand.New(rand.NewSource(37))
	d, x := api.Doc{}, api.Index{}
	for range 1000 {
		next := sample.Doc(random.Intn)
		y := index.Build(next)
		if !index.Same(y, built(next)) || index.Check(y) != api.OK {
			t.Fatalf("Build of %v: %v", next, y)
		}
		if z := index.Update(x, d, next); !index.Same(z, y) {
			t.Fatalf("Update from %v to %v: %v, want %v", d, next, z, y)
		}
		for _, n := range next.Notes {
			role, times := next.Tiers[n.Tier].Role, 0
			for _, p := range y.Posts {
				if slices.Contains(p.Ids, n.Id) {
					times++
				}
			}
			if (role == api.RoleNone) != (times == 0) || times > 1 || role != api.RoleNone && !slices.Contains(index.Find(y, role, n.Text), n.Id) {
				t.Fatalf("%v is in %d postings of %v", n, times, y)
			}
		}
		for _, p := range []string{"*", "b?", "*mi", "\u00e9*"} {
			for role := range 7 {
				var want []string
				for _, post := range y.Posts {
					if post.Role == role && pattern.Match(p, post.Text) {
						want = append(want, post.Text)
					}
				}
				if l := index.Texts(y, role, p); !slices.Equal(l, want) || !slices.IsSorted(l) {
					t.Fatalf("Texts of %q in %v: %q", p, y, l)
				}
			}
		}
		d, x = next, y
	}
}

// P37.4, P37.7: after any Puts and Takes, the index has what was put and not taken.
func TestManyPuts(t *testing.T) {
	random := rand.New(rand.NewSource(38))
	type key struct {
		role int
		text string
		id   int
	}
	in := map[key]bool{}
	x := api.Index{}
	for range 20000 {
		k := key{random.Intn(8) - 1, []string{"", "a", "b", "ab"}[random.Intn(4)], random.Intn(5) - 1}
		before := x
		if random.Intn(2) == 0 {
			x = index.Put(x, k.role, k.text, k.id)
			if k.role >= api.RoleText && k.role <= api.RoleFree && !in[k] {
				in[k] = true
				if back := index.Take(x, k.role, k.text, k.id); !index.Same(back, before) {
					t.Fatalf("Take of %v after Put into %v: %v", k, before, back)
				}
			} else if !index.Same(x, before) {
				t.Fatalf("Put of %v into %v: %v", k, before, x)
			}
		} else {
			x = index.Take(x, k.role, k.text, k.id)
			delete(in, k)
		}
		count := 0
		for _, p := range x.Posts {
			for _, id := range p.Ids {
				count++
				if !in[key{p.Role, p.Text, id}] {
					t.Fatalf("%d is in %v of %v", id, p, x)
				}
			}
		}
		if count != len(in) || index.Check(x) != api.OK {
			t.Fatalf("%d of %d Ids are in %v", count, len(in), x)
		}
	}
}

// R5: results are new memory, and arguments stay as they are.
func TestMemory(t *testing.T) {
	d, next := sample.Doc(rand.New(rand.NewSource(1)).Intn), sample.Doc(rand.New(rand.NewSource(2)).Intn)
	x := index.Build(d)
	for i, call := range []func() api.Index{
		func() api.Index { return index.Put(x, api.RoleWord, "new", 3) }, func() api.Index { return index.Put(x, api.RoleNone, "new", 3) }, func() api.Index { return index.Put(x, api.RoleWord, "ba", 9999) }, func() api.Index { return index.Take(x, api.RoleWord, "none", 3) }, func() api.Index { return index.Take(x, x.Posts[1].Role, x.Posts[1].Text, x.Posts[1].Ids[0]) }, func() api.Index { return index.Update(x, d, next) }, func() api.Index { return index.Build(d) },
	} {
		y := call()
		for j := range y.Posts {
			clear(y.Posts[j].Ids)
		}
		clear(y.Posts)
		if len(y.Posts) == 0 || !index.Same(x, built(d)) {
			t.Fatal("call", i, x)
		}
	}
	clear(index.Find(x, x.Posts[0].Role, x.Posts[0].Text))
	clear(index.Texts(x, api.RoleWord, "*"))
	if !index.Same(x, built(d)) || !tiers.Same(d, sample.Doc(rand.New(rand.NewSource(1)).Intn)) {
		t.Error(x)
	}
}

// The functions end for indexes and documents that are not right, too.
func TestWhatIsNotRight(t *testing.T) {
	x := of(post(3, "b"), post(9, "a", 5, 1), post(3, "b"), post(0, "", 1, 1), post(2, "a"))
	d := api.Doc{Tiers: []api.Tier{{Role: 9}, {Role: 2}}, Notes: []api.Note{{Tier: -1}, {Tier: 2}, {Tier: 0}, {Tier: 1}, {Tier: 1, Text: "a"}}}
	for _, role := range []int{0, 2, 3, 9} {
		for _, text := range []string{"", "a", "b"} {
			index.Find(x, role, text)
			index.Texts(x, role, text)
			index.Take(index.Put(x, role, text, 1), role, text, 1)
			index.Take(x, role, text, 1)
		}
	}
	index.Update(index.Update(x, d, d), d, api.Doc{})
	index.Build(d)
}
