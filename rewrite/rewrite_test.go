package rewrite_test

import (
	"math"
	"math/rand"
	"slices"
	"testing"

	"langdoc/api"
	"langdoc/fst"
	"langdoc/phoneme"
	"langdoc/rewrite"
)

var (
	vowel  = api.Class{Mask: 1, Value: 1}
	silent = api.Class{Mask: 1, Value: 0}
	voiced = api.Class{Mask: 2, Value: 2}
	all    = api.Class{}
	none   = api.Class{Mask: 0, Value: 1}
)

// speech returns the vowels 1 and 5, and the consonants 2 to 4, of which 4 is voiced.
func speech() api.Inventory {
	return api.Inventory{Segs: []api.Phoneme{{Name: "a", Feat: 3}, {Name: "p"}, {Name: "t"}, {Name: "d", Feat: 2}, {Name: "i", Feat: 3}}}
}

// classes returns a context.
func classes(l ...api.Class) []api.Class {
	return l
}

// turn returns a rule that turns one segment into another one everywhere.
func turn(from, to int) api.Rewrite {
	return api.Rewrite{From: []int{from}, To: []int{to}}
}

// upTo returns the numbers from 0 to count - 1.
func upTo(count int) []int {
	l := make([]int, count)
	for i := range l {
		l[i] = i
	}
	return l
}

// P22.1
func TestCheck(t *testing.T) {
	var large api.Inventory
	for i := range api.MaxSegs {
		large.Segs = append(large.Segs, api.Phoneme{Name: string(rune('0' + i))})
	}
	each := upTo(api.MaxSegs + 1)[1:]
	three := make([]api.Class, api.MaxContext+1)
	for i, c := range []struct {
		inv api.Inventory
		r   api.Rewrite
		err api.Errno
	}{
		{speech(), turn(1, 2), api.OK}, {speech(), turn(5, 0), api.OK}, {speech(), turn(5, 5), api.OK}, {speech(), api.Rewrite{From: []int{1, 2, 5}, To: []int{2, 2, 0}, Left: classes(all, none), Right: classes(vowel, api.Class{Mask: -1, Value: math.MinInt}), Begin: true, End: true}, api.OK}, {large, api.Rewrite{From: each, To: make([]int, api.MaxSegs)}, api.OK},
		{speech(), api.Rewrite{}, api.ErrArg}, {speech(), api.Rewrite{To: []int{1}}, api.ErrArg}, {speech(), api.Rewrite{From: []int{1}}, api.ErrArg}, {speech(), api.Rewrite{From: []int{9}, To: []int{9, 9}, Left: three}, api.ErrArg}, {speech(), api.Rewrite{From: []int{1, 1}, To: []int{1}}, api.ErrArg}, {api.Inventory{}, api.Rewrite{}, api.ErrArg},
		{speech(), turn(0, 1), api.ErrSegment}, {speech(), turn(6, 1), api.ErrSegment}, {speech(), turn(-1, 1), api.ErrSegment}, {speech(), turn(math.MinInt, 1), api.ErrSegment}, {speech(), turn(math.MaxInt, 1), api.ErrSegment}, {speech(), turn(1, 6), api.ErrSegment}, {speech(), turn(1, -1), api.ErrSegment}, {speech(), turn(1, math.MaxInt), api.ErrSegment}, {speech(), api.Rewrite{From: []int{1, 1}, To: []int{1, 6}}, api.ErrSegment}, {speech(), api.Rewrite{From: []int{1, 6}, To: []int{0, 0}}, api.ErrSegment}, {speech(), api.Rewrite{From: []int{0}, To: []int{0}, Left: three}, api.ErrSegment}, {api.Inventory{}, turn(1, 0), api.ErrSegment},
		{speech(), api.Rewrite{From: []int{1, 1}, To: []int{2, 2}}, api.ErrTwice}, {speech(), api.Rewrite{From: []int{1, 2, 1}, To: []int{0, 0, 0}, Left: three}, api.ErrTwice}, {large, api.Rewrite{From: append(slices.Clone(each), 60), To: make([]int, api.MaxSegs+1)}, api.ErrTwice},
		{speech(), api.Rewrite{From: []int{1}, To: []int{2}, Left: three}, api.ErrLong}, {speech(), api.Rewrite{From: []int{1}, To: []int{2}, Right: three}, api.ErrLong}, {speech(), api.Rewrite{From: []int{1}, To: []int{2}, Left: three[1:], Right: three[1:]}, api.OK},
	} {
		if err := rewrite.Check(c.inv, c.r); err != c.err {
			t.Errorf("%d: Check = %d, want %d", i, err, c.err)
		}
		f, err := rewrite.Compile(c.inv, c.r)
		if err != c.err || err == api.OK && fst.Check(f) != api.OK || err != api.OK && !fst.Same(f, api.Fst{}) {
			t.Errorf("%d: Compile: %d", i, err)
		}
	}
}

// P22.2
func TestSitesAndApply(t *testing.T) {
	after := api.Rewrite{From: []int{3}, To: []int{4}, Left: classes(vowel)}
	for i, c := range []struct {
		r     api.Rewrite
		w     []int
		sites []int
		v     []int
	}{
		{after, nil, nil, nil}, {after, []int{3}, nil, []int{3}}, {after, []int{1, 3, 3}, []int{1}, []int{1, 4, 3}}, {after, []int{3, 1, 3, 5, 3, 2}, []int{2, 4}, []int{3, 1, 4, 5, 4, 2}}, {after, []int{1, 2, 5}, nil, []int{1, 2, 5}},
		// All refers to the word as it is: what is changed neither makes nor destroys a site.
		{api.Rewrite{From: []int{3}, To: []int{1}, Left: classes(vowel)}, []int{1, 3, 3}, []int{1}, []int{1, 1, 3}}, {api.Rewrite{From: []int{1}, To: []int{2}, Left: classes(vowel)}, []int{1, 1, 1}, []int{1, 2}, []int{1, 2, 2}}, {api.Rewrite{From: []int{1}, To: []int{0}, Right: classes(vowel)}, []int{1, 1, 1}, []int{0, 1}, []int{1}}, {api.Rewrite{From: []int{1, 2}, To: []int{2, 1}}, []int{1, 2, 2, 1}, []int{0, 1, 2, 3}, []int{2, 1, 1, 2}},
		// Contexts of two classes are in order.
		{api.Rewrite{From: []int{3}, To: []int{0}, Left: classes(voiced, vowel)}, []int{4, 1, 3, 1, 4, 3, 2, 1, 3}, []int{2}, []int{4, 1, 1, 4, 3, 2, 1, 3}}, {api.Rewrite{From: []int{3}, To: []int{0}, Right: classes(voiced, silent)}, []int{3, 1, 2, 3, 2, 1, 3, 4, 3, 4}, []int{0, 6}, []int{1, 2, 3, 2, 1, 4, 3, 4}}, {api.Rewrite{From: []int{3}, To: []int{2}, Left: classes(silent), Right: classes(vowel)}, []int{3, 3, 1, 3, 1, 2, 3, 5}, []int{1, 6}, []int{3, 2, 1, 3, 1, 2, 2, 5}},
		// The edges of the word.
		{api.Rewrite{From: []int{5}, To: []int{0}, End: true}, []int{5, 2, 5}, []int{2}, []int{5, 2}}, {api.Rewrite{From: []int{5}, To: []int{0}, Begin: true}, []int{5, 2, 5}, []int{0}, []int{2, 5}}, {api.Rewrite{From: []int{5}, To: []int{1}, Begin: true, End: true}, []int{5}, []int{0}, []int{1}}, {api.Rewrite{From: []int{5}, To: []int{1}, Begin: true, End: true}, []int{5, 5}, nil, []int{5, 5}},
		{api.Rewrite{From: []int{3}, To: []int{4}, Left: classes(vowel), Begin: true}, []int{1, 3, 1, 3}, []int{1}, []int{1, 4, 1, 3}}, {api.Rewrite{From: []int{3}, To: []int{4}, Left: classes(all, vowel), Begin: true}, []int{1, 3, 2, 1, 3}, nil, []int{1, 3, 2, 1, 3}}, {api.Rewrite{From: []int{3}, To: []int{4}, Left: classes(all, vowel), Begin: true}, []int{2, 1, 3, 1, 3}, []int{2}, []int{2, 1, 4, 1, 3}}, {api.Rewrite{From: []int{3}, To: []int{4}, Right: classes(vowel), End: true}, []int{3, 1, 3, 5}, []int{2}, []int{3, 1, 4, 5}}, {api.Rewrite{From: []int{3}, To: []int{4}, Right: classes(vowel, all), End: true}, []int{3, 1, 3, 1, 2}, []int{2}, []int{3, 1, 4, 1, 2}}, {api.Rewrite{From: []int{3}, To: []int{4}, Left: classes(vowel), Right: classes(vowel), Begin: true, End: true}, []int{1, 3, 5}, []int{1}, []int{1, 4, 5}},
		// Classes of all segments, and of none.
		{api.Rewrite{From: []int{3}, To: []int{4}, Left: classes(all)}, []int{3, 3}, []int{1}, []int{3, 4}}, {api.Rewrite{From: []int{3}, To: []int{4}, Right: classes(none)}, []int{3, 3}, nil, []int{3, 3}},
		{turn(3, 3), []int{3, 1, 3}, []int{0, 2}, []int{3, 1, 3}}, {turn(3, 0), slices.Repeat([]int{3}, api.MaxWord), upTo(api.MaxWord), nil}, {api.Rewrite{From: []int{5, 1, 2}, To: []int{0, 5, 1}}, []int{5, 1, 2, 3, 5}, []int{0, 1, 2, 4}, []int{5, 1, 3}},
	} {
		if err := rewrite.Check(speech(), c.r); err != api.OK {
			t.Fatal(i, err)
		}
		if sites := rewrite.Sites(speech(), c.r, c.w); !slices.Equal(sites, c.sites) {
			t.Errorf("%d: Sites: %v", i, sites)
		}
		if v := rewrite.Apply(speech(), c.r, c.w); !slices.Equal(v, c.v) {
			t.Errorf("%d: Apply: %v", i, v)
		}
	}
}

// same reports whether two lists of words are equal.
func same(a, b [][]int) bool {
	return slices.EqualFunc(a, b, slices.Equal[[]int])
}

// P22.3
func TestRunAndLast(t *testing.T) {
	feeding := []api.Rewrite{{From: []int{3}, To: []int{4}, Left: classes(vowel)}, {From: []int{4}, To: []int{0}, End: true}, {From: []int{1}, To: []int{5}, End: true}}
	for i, c := range []struct {
		l    []api.Rewrite
		w    []int
		want [][]int
	}{
		{nil, []int{1, 3}, nil}, {nil, nil, nil}, {feeding, nil, [][]int{nil, nil, nil}}, {feeding, []int{1, 3}, [][]int{{1, 4}, {1}, {5}}}, {feeding[1:], []int{1, 3}, [][]int{{1, 3}, {1, 3}}}, {feeding[:1], []int{1, 3}, [][]int{{1, 4}}}, {[]api.Rewrite{feeding[2], feeding[1], feeding[0]}, []int{1, 3}, [][]int{{1, 3}, {1, 3}, {1, 4}}}, {[]api.Rewrite{turn(1, 2), turn(2, 3), turn(3, 1)}, []int{1, 2, 3}, [][]int{{2, 2, 3}, {3, 3, 3}, {1, 1, 1}}}, {[]api.Rewrite{turn(1, 0), turn(2, 1)}, []int{1, 2}, [][]int{{2}, {1}}},
	} {
		last := c.w
		if len(c.want) > 0 {
			last = c.want[len(c.want)-1]
		}
		if results := rewrite.Run(speech(), c.l, c.w); !same(results, c.want) {
			t.Errorf("%d: Run: %v", i, results)
		}
		if v := rewrite.Last(speech(), c.l, c.w); !slices.Equal(v, last) {
			t.Errorf("%d: Last: %v", i, v)
		}
	}
}

// P22.4
func TestBack(t *testing.T) {
	after, final := api.Rewrite{From: []int{3}, To: []int{4}, Left: classes(vowel)}, api.Rewrite{From: []int{4}, To: []int{0}, End: true}
	for i, c := range []struct {
		r      api.Rewrite
		w      []int
		length int
		want   [][]int
	}{
		{final, []int{1}, 2, [][]int{{1}, {1, 4}}}, {final, []int{1}, 1, [][]int{{1}}}, {final, []int{1}, 0, nil}, {final, nil, 1, [][]int{nil, {4}}}, {final, nil, 0, [][]int{nil}}, {final, nil, api.MaxWord, [][]int{nil, {4}}}, {final, []int{4}, 2, [][]int{{4, 4}}}, {final, []int{4}, 1, nil},
		{final, nil, -1, nil}, {final, nil, math.MinInt, nil}, {final, nil, api.MaxWord + 1, nil}, {final, []int{1}, math.MaxInt, nil},
		{after, []int{1, 4}, 2, [][]int{{1, 3}, {1, 4}}}, {after, []int{1, 3}, 24, nil}, {after, []int{5, 4, 4, 1, 4}, 5, [][]int{{5, 3, 4, 1, 3}, {5, 3, 4, 1, 4}, {5, 4, 4, 1, 3}, {5, 4, 4, 1, 4}}}, {after, []int{4}, 24, [][]int{{4}}},
		{turn(5, 0), []int{1}, 3, [][]int{{1}, {1, 5}, {1, 5, 5}, {5, 1}, {5, 1, 5}, {5, 5, 1}}}, {turn(5, 0), []int{5}, 3, nil}, {api.Rewrite{From: []int{1, 2}, To: []int{2, 1}}, []int{1, 2}, 24, [][]int{{2, 1}}}, {api.Rewrite{From: []int{1, 2, 3}, To: []int{0, 0, 3}}, nil, 2, [][]int{nil, {1}, {1, 1}, {1, 2}, {2}, {2, 1}, {2, 2}}},
		{turn(1, 1), slices.Repeat([]int{1}, 24), 24, [][]int{slices.Repeat([]int{1}, 24)}}, {turn(1, 1), slices.Repeat([]int{1}, 24), 23, nil}, {api.Rewrite{From: []int{1}, To: []int{0}, Left: classes(none)}, slices.Repeat([]int{1}, 24), 24, [][]int{slices.Repeat([]int{1}, 24)}},
	} {
		if l := rewrite.Back(speech(), c.r, c.w, c.length); !same(l, c.want) {
			t.Errorf("%d: Back: %v", i, l)
		}
	}
	if l := rewrite.Back(speech(), turn(2, 0), []int{1, 3, 1}, 16); len(l) != 2380 {
		t.Errorf("%d lists", len(l)) // 3 of at most 16 places, 4 of 17
	}
}

// words returns all words of at most so many of the first so many segments, in lexicographic order.
func words(length, segs int) [][]int {
	l := [][]int{nil}
	if length == 0 {
		return l
	}
	for seg := 1; seg <= segs; seg++ {
		for _, w := range words(length-1, segs) {
			l = append(l, append([]int{seg}, w...))
		}
	}
	return l
}

// applied returns what Sites and Apply return, from the definition.
func applied(inv api.Inventory, r api.Rewrite, w []int) (sites, v []int) {
	for i, seg := range w {
		k, site := slices.Index(r.From, seg), true
		for j, c := range r.Left {
			at := i - len(r.Left) + j
			site = site && at >= 0 && phoneme.In(inv, w[max(at, 0)], c)
		}
		for j, c := range r.Right {
			at := i + 1 + j
			site = site && at < len(w) && phoneme.In(inv, w[min(at, len(w)-1)], c)
		}
		if r.Begin {
			site = site && i == len(r.Left)
		}
		if r.End {
			site = site && i == len(w)-1-len(r.Right)
		}
		switch {
		case k < 0 || !site:
			v = append(v, seg)
		case r.To[k] != 0:
			v = append(v, r.To[k])
		}
		if k >= 0 && site {
			sites = append(sites, i)
		}
	}
	return sites, v
}

// some returns a right rule for an inventory.
func some(random *rand.Rand, inv api.Inventory) api.Rewrite {
	context := func() []api.Class {
		var l []api.Class
		for range random.Intn(3) {
			l = append(l, []api.Class{vowel, silent, voiced, all, none, {Mask: 3, Value: 2}}[random.Intn(6)])
		}
		return l
	}
	r := api.Rewrite{Left: context(), Right: context(), Begin: random.Intn(4) == 0, End: random.Intn(4) == 0}
	for _, i := range random.Perm(len(inv.Segs))[:1+random.Intn(2)] {
		r.From = append(r.From, i+1)
		r.To = append(r.To, random.Intn(len(inv.Segs)+1))
	}
	return r
}

// three returns an inventory of three segments.
func three() api.Inventory {
	return api.Inventory{Segs: []api.Phoneme{{Name: "a", Feat: 3}, {Name: "t"}, {Name: "d", Feat: 2}}}
}

// P22.2, P22.4 to P22.6: all short words, under many rules.
func TestManyRules(t *testing.T) {
	random := rand.New(rand.NewSource(22))
	inv, long, short := three(), words(6, 3), words(4, 3)
	sites := 0
	for range 300 {
		r := some(random, inv)
		if err := rewrite.Check(inv, r); err != api.OK {
			t.Fatal(r, err)
		}
		back := map[string][][]int{}
		for _, w := range long {
			at, v := applied(inv, r, w)
			if !slices.Equal(rewrite.Sites(inv, r, w), at) || !slices.Equal(rewrite.Apply(inv, r, w), v) {
				t.Fatalf("%v: Sites and Apply of %v: %v and %v", r, w, rewrite.Sites(inv, r, w), rewrite.Apply(inv, r, w))
			}
			checkMissing(t, r, w, at, v)
			sites += len(at)
			if len(w) <= 4 {
				back[phoneme.Text(inv, v)] = append(back[phoneme.Text(inv, v)], w)
			}
		}
		for _, v := range short {
			if l := rewrite.Back(inv, r, v, 4); !same(l, back[phoneme.Text(inv, v)]) {
				t.Fatalf("%v: Back of %v: %v, want %v", r, v, l, back[phoneme.Text(inv, v)])
			}
		}
	}
	if sites < 10000 {
		t.Errorf("only %d sites", sites)
	}
}

// checkMissing checks what P22.6 says of the length of what Apply returns.
func checkMissing(t *testing.T, r api.Rewrite, w, sites, v []int) {
	missing := 0
	for _, i := range sites {
		if r.To[slices.Index(r.From, w[i])] == 0 {
			missing++
		}
	}
	if len(w)-len(v) != missing {
		t.Fatalf("%v turns %v into %v", r, w, v)
	}
	if !slices.ContainsFunc(w, func(seg int) bool { return slices.Contains(r.From, seg) }) && !slices.Equal(v, w) {
		t.Fatalf("%v turns %v into %v", r, w, v)
	}
}

// P22.5: all pairs of short words, under many rules.
func TestCompile(t *testing.T) {
	random := rand.New(rand.NewSource(5))
	inv, l := three(), words(4, 3)
	for range 40 {
		r := some(random, inv)
		f, err := rewrite.Compile(inv, r)
		if err != api.OK || fst.Check(f) != api.OK {
			t.Fatal(r, err)
		}
		for _, w := range l {
			outputs, ok := fst.Outputs(f, w, api.MaxWord, 5)
			if !ok || !same(outputs, [][]int{rewrite.Apply(inv, r, w)}) {
				t.Fatalf("%v: the outputs of %v are %v", r, w, outputs)
			}
		}
		for range 300 {
			w, v := l[random.Intn(len(l))], l[random.Intn(len(l))]
			if accepts := fst.Accepts(f, w, v); accepts != slices.Equal(v, rewrite.Apply(inv, r, w)) {
				t.Fatalf("%v: %v and %v: %t", r, w, v, accepts)
			}
		}
	}
}

// large returns an inventory of as many segments as possible, with any features.
func large(random *rand.Rand) api.Inventory {
	var inv api.Inventory
	for i := range api.MaxSegs {
		inv.Segs = append(inv.Segs, api.Phoneme{Name: string(rune('A' + i)), Feat: random.Intn(1 << api.MaxBits)})
	}
	return inv
}

// P22.5: large inventories, and words that are longer than MaxWord.
func TestCompileLarge(t *testing.T) {
	random := rand.New(rand.NewSource(60))
	for range 30 {
		inv := large(random)
		r := some(random, inv)
		for _, i := range random.Perm(api.MaxSegs)[:30] {
			if !slices.Contains(r.From, i+1) {
				r.From, r.To = append(r.From, i+1), append(r.To, random.Intn(api.MaxSegs+1))
			}
		}
		f, err := rewrite.Compile(inv, r)
		if err != api.OK || fst.Check(f) != api.OK || rewrite.Check(inv, r) != api.OK {
			t.Fatal(r, err)
		}
		for range 5 {
			var w []int
			for range random.Intn(300) {
				w = append(w, 1+random.Intn(api.MaxSegs))
			}
			_, v := applied(inv, r, w)
			if !fst.Accepts(f, w, v) || fst.Accepts(f, w, append(slices.Clone(v), 1)) || !slices.Equal(v, w) && fst.Accepts(f, w, w) {
				t.Fatalf("%v: %v and %v", r, w, v)
			}
		}
	}
}

// P22.4, P22.6: a word is in Back of Apply of it, and a further rule is applied to what the rules before it give.
func TestLaws(t *testing.T) {
	random := rand.New(rand.NewSource(6))
	for range 400 {
		inv := speech()
		var l []api.Rewrite
		for range random.Intn(api.MaxRules) {
			l = append(l, some(random, inv))
		}
		r := some(random, inv)
		var w []int
		for range random.Intn(7) {
			w = append(w, 1+random.Intn(5))
		}
		v := rewrite.Apply(inv, r, w)
		if back := rewrite.Back(inv, r, v, len(w)); !slices.ContainsFunc(back, func(u []int) bool { return slices.Equal(u, w) }) {
			t.Fatalf("%v: %v is not in Back of %v", r, w, v)
		}
		last, further := rewrite.Last(inv, l, w), rewrite.Last(inv, append(l, r), w)
		if !slices.Equal(further, rewrite.Apply(inv, r, last)) {
			t.Fatalf("%v and %v turn %v into %v and then %v", l, r, w, last, further)
		}
		if results := rewrite.Run(inv, l, w); len(results) != len(l) || len(l) > 0 && !slices.Equal(results[len(l)-1], last) {
			t.Fatalf("Run of %v and %v: %v", l, w, results)
		}
	}
}

// R5: what is returned is new memory, and arguments stay as they are.
func TestMemory(t *testing.T) {
	r := api.Rewrite{From: []int{3, 4}, To: []int{4, 0}, Left: classes(voiced, vowel), Right: classes(vowel, silent)}
	w := []int{4, 1, 2}
	l := []api.Rewrite{r, turn(2, 2), r}
	results := rewrite.Run(speech(), l, w)
	clear(results[0])
	if !same(results[1:], [][]int{w, w}) {
		t.Error(results)
	}
	clear(rewrite.Last(speech(), nil, w))
	clear(rewrite.Apply(speech(), r, w))
	clear(rewrite.Sites(speech(), r, w))
	back := rewrite.Back(speech(), turn(2, 1), w, 24)
	if f, err := rewrite.Compile(speech(), r); err != api.OK || f.States == 0 {
		t.Error(err)
	}
	if len(back) != 0 || !slices.Equal(w, []int{4, 1, 2}) || !slices.Equal(r.From, []int{3, 4}) || !slices.Equal(r.To, []int{4, 0}) || !slices.Equal(r.Left, classes(voiced, vowel)) || !slices.Equal(r.Right, classes(vowel, silent)) {
		t.Error(back, w, r)
	}
}

// The functions end for rules and words that are not right, too.
func TestRulesThatAreNotRight(t *testing.T) {
	for _, r := range []api.Rewrite{{}, {From: []int{1, 3}}, {From: []int{1}, To: []int{9}}, {From: []int{1, 1}, To: []int{0, 2}}, {From: []int{3}, To: []int{-1}, Left: classes(all, all, all)}, {From: []int{3}, To: []int{1}, Right: classes(all, all, all), End: true}} {
		for _, w := range [][]int{nil, {1, 3}, {0, -1, 99}, {3, 3, 3, 3, 3}} {
			rewrite.Sites(speech(), r, w)
			rewrite.Apply(speech(), r, w)
			rewrite.Run(speech(), []api.Rewrite{r, r}, w)
			rewrite.Last(speech(), []api.Rewrite{r, r}, w)
			if l := rewrite.Back(speech(), r, w, 24); len(l) != 0 {
				t.Errorf("Back of %v under %v: %v", w, r, l)
			}
		}
	}
}
