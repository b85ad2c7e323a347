package variant_test

import (
	"math"
	"math/rand"
	"slices"
	"testing"

	"langdoc/api"
	"langdoc/lexicon"
	"langdoc/sample"
	"langdoc/variant"
)

// of returns an entry with senses that have these glosses.
func of(id, main int, glosses ...string) api.Entry {
	e := api.Entry{Id: id, Main: main}
	for _, s := range glosses {
		e.Senses = append(e.Senses, api.Sense{Gloss: s, Def: "the " + s})
	}
	return e
}

// book returns a list that Check accepts: 3 is a variant of 5, this and 11 of 9, 4 and 12 of 20, and 7 of 4.
func book() []api.Entry {
	l := []api.Entry{of(3, 5), of(4, 20), of(5, 9, "hound"), of(6, 0), of(7, 4), of(9, 0, "dog", "cur"), of(11, 9), of(12, 20, "cat"), of(20, 0)}
	l[0].Form, l[0].Alts, l[0].Links, l[0].Refs = []int{1, 2}, [][]int{{3}}, []api.Link{{Kind: 2, To: 9}}, []api.Ref{{Rec: 1, Note: 2}}
	return l
}

// ids are the Ids of book; strange are numbers that are none.
var (
	ids     = []int{3, 4, 5, 6, 7, 9, 11, 12, 20}
	strange = []int{0, 1, 8, 10, 21, -1, -3, math.MinInt, math.MaxInt}
)

// withMain returns the list in which an entry has another Main.
func withMain(l []api.Entry, id, to int) []api.Entry {
	for i, e := range l {
		if e.Id == id {
			l[i].Main = to
		}
	}
	return l
}

// P27.1
func TestCheck(t *testing.T) {
	for i, c := range []struct {
		l   []api.Entry
		err api.Errno
	}{
		{nil, api.OK}, {book(), api.OK}, {[]api.Entry{of(1, 0)}, api.OK}, {[]api.Entry{of(1, 2), of(2, 3), of(3, 4), of(4, 0)}, api.OK}, {[]api.Entry{of(1, 0), of(2, 1), of(3, 2), of(4, 3)}, api.OK},
		{withMain(book(), 3, 1), api.ErrNone}, {withMain(book(), 20, 21), api.ErrNone}, {withMain(book(), 6, -1), api.ErrNone}, {withMain(book(), 6, math.MaxInt), api.ErrNone}, {[]api.Entry{of(1, 2)}, api.ErrNone}, {[]api.Entry{of(1, 1), of(2, 1), of(3, 9)}, api.ErrNone}, {withMain(withMain(book(), 9, 3), 12, 8), api.ErrNone},
		{[]api.Entry{of(1, 1)}, api.ErrCycle}, {[]api.Entry{of(1, 0), of(2, 2)}, api.ErrCycle}, {withMain(book(), 6, 6), api.ErrCycle}, {withMain(book(), 9, 5), api.ErrCycle}, {withMain(book(), 9, 3), api.ErrCycle}, {withMain(book(), 20, 7), api.ErrCycle}, {[]api.Entry{of(1, 2), of(2, 3), of(3, 4), of(4, 2)}, api.ErrCycle}, {[]api.Entry{of(1, 2), of(2, 3), of(3, 1)}, api.ErrCycle}, {[]api.Entry{of(1, 0), of(2, 3), of(3, 2)}, api.ErrCycle},
		// Lists in any order, with any Ids.
		{[]api.Entry{of(9, 3), of(-4, 9), of(3, 0), of(0, 3)}, api.OK}, {[]api.Entry{of(9, 3), of(3, 9), of(0, 3)}, api.ErrCycle}, {[]api.Entry{of(1, 0), of(1, 5)}, api.ErrNone}, {[]api.Entry{of(1, 0), of(1, 1)}, api.OK}, {[]api.Entry{of(1, 2), of(1, 0), of(2, 1)}, api.ErrCycle}, {[]api.Entry{of(0, 5), of(5, 0)}, api.OK},
	} {
		if err := variant.Check(c.l); err != c.err {
			t.Errorf("%d: Check: %d, want %d", i, err, c.err)
		}
	}
}

// P27.2, and the examples of the chapter.
func TestMainAndAll(t *testing.T) {
	for i, want := range []int{9, 20, 9, 6, 20, 9, 9, 20, 20} {
		if n := variant.Main(book(), ids[i]); n != want {
			t.Errorf("Main of %d: %d", ids[i], n)
		}
	}
	all := map[int][]int{9: {3, 5, 11}, 20: {4, 7, 12}}
	for _, id := range slices.Concat(ids, strange) {
		if l := variant.All(book(), id); !slices.Equal(l, all[id]) {
			t.Errorf("All of %d: %v", id, l)
		}
	}
	for _, id := range strange {
		if n := variant.Main(book(), id); n != 0 {
			t.Errorf("Main of %d: %d", id, n)
		}
	}
	if variant.Main(nil, 1) != 0 || len(variant.All(nil, 1)) != 0 {
		t.Error("without entries")
	}
}

// P27.3
func TestSenses(t *testing.T) {
	for i, want := range []string{"hound", "", "hound", "", "", "dog", "dog", "cat", ""} {
		l := variant.Senses(book(), ids[i])
		if want == "" && len(l) != 0 || want != "" && (len(l) == 0 || l[0] != api.Sense{Gloss: want, Def: "the " + want}) || want == "dog" && (len(l) != 2 || l[1].Gloss != "cur") {
			t.Errorf("Senses of %d: %v", ids[i], l)
		}
	}
	for _, id := range strange {
		if l := variant.Senses(book(), id); len(l) != 0 {
			t.Errorf("Senses of %d: %v", id, l)
		}
	}
	if l := variant.Senses(withMain(book(), 7, 12), 7); len(l) != 1 || l[0].Gloss != "cat" {
		t.Error(l)
	}
}

// P27.4, and the examples of the chapter.
func TestJoin(t *testing.T) {
	for _, c := range [][2]int{{6, 9}, {6, 3}, {9, 6}, {9, 20}, {20, 3}, {3, 9}, {3, 5}, {3, 6}, {5, 11}, {11, 3}, {7, 12}, {12, 7}} {
		if l, err := variant.Join(book(), c[0], c[1]); err != api.OK || !lexicon.Same(l, withMain(book(), c[0], c[1])) {
			t.Errorf("Join of %v: %v, %d", c, l, err)
		}
	}
	for i, c := range []struct {
		id, to int
		err    api.Errno
	}{
		{8, 9, api.ErrNone}, {9, 8, api.ErrNone}, {8, 8, api.ErrNone}, {0, 9, api.ErrNone}, {9, 0, api.ErrNone}, {-3, 3, api.ErrNone}, {3, math.MaxInt, api.ErrNone},
		{6, 6, api.ErrCycle}, {3, 3, api.ErrCycle}, {9, 3, api.ErrCycle}, {9, 5, api.ErrCycle}, {5, 3, api.ErrCycle}, {20, 7, api.ErrCycle}, {4, 7, api.ErrCycle}, {20, 4, api.ErrCycle},
	} {
		if l, err := variant.Join(book(), c.id, c.to); err != c.err || len(l) != 0 {
			t.Errorf("%d: Join: %v, %d, want %d", i, l, err, c.err)
		}
	}
}

// P27.4
func TestPart(t *testing.T) {
	for _, id := range []int{5, 12} {
		if l, err := variant.Part(book(), id); err != api.OK || !lexicon.Same(l, withMain(book(), id, 0)) {
			t.Errorf("Part of %d: %v, %d", id, l, err)
		}
	}
	for id, want := range map[int]api.Errno{8: api.ErrNone, 0: api.ErrNone, -5: api.ErrNone, math.MaxInt: api.ErrNone, 9: api.ErrArg, 6: api.ErrArg, 20: api.ErrArg, 3: api.ErrShort, 4: api.ErrShort, 7: api.ErrShort, 11: api.ErrShort} {
		if l, err := variant.Part(book(), id); err != want || len(l) != 0 {
			t.Errorf("Part of %d: %v, %d, want %d", id, l, err, want)
		}
	}
}

// way returns the entries of the way of an entry, from the definition.
func way(l []api.Entry, id int) []api.Entry {
	e, found := lexicon.Get(l, id)
	switch {
	case !found:
		return nil
	case e.Main == 0:
		return []api.Entry{e}
	}
	return append([]api.Entry{e}, way(l, e.Main)...)
}

// checkList checks a list that was joined and parted, and what is found in it.
func checkList(t *testing.T, l []api.Entry) {
	if err := variant.Check(l); err != api.OK {
		t.Fatalf("%v: %d", l, err)
	}
	all := map[int][]int{}
	for _, e := range l {
		w := way(l, e.Id)
		end, id := w[len(w)-1].Id, variant.Main(l, e.Id)
		if id != end || variant.Main(l, id) != id || id != e.Id && !slices.Contains(variant.All(l, id), e.Id) {
			t.Fatalf("Main of %d in %v: %d", e.Id, l, id)
		}
		if end != e.Id {
			all[end] = append(all[end], e.Id)
		}
		i := slices.IndexFunc(w, func(e api.Entry) bool { return len(e.Senses) > 0 || e.Main == 0 })
		if got := variant.Senses(l, e.Id); !slices.Equal(got, w[i].Senses) {
			t.Fatalf("Senses of %d in %v: %v", e.Id, l, got)
		}
	}
	for _, e := range l {
		if got := variant.All(l, e.Id); !slices.Equal(got, all[e.Id]) {
			t.Fatalf("All of %d in %v: %v", e.Id, l, got)
		}
	}
}

// P27.1 to P27.5: of lists that are joined and parted again and again.
func TestManyJoins(t *testing.T) {
	random := rand.New(rand.NewSource(27))
	done := map[api.Errno]int{}
	l := book()
	for range 5000 {
		i, to := random.Intn(len(l)), 1+random.Intn(21)
		id := l[i].Id
		w := way(l, to)
		onWay := slices.ContainsFunc(w, func(e api.Entry) bool { return e.Id == id })
		if random.Intn(3) > 0 {
			next, err := variant.Join(l, id, to)
			if (len(w) == 0) != (err == api.ErrNone) || onWay != (err == api.ErrCycle) {
				t.Fatalf("Join of %d and %d in %v: %d", id, to, l, err)
			}
			done[err]++
			if err != api.OK {
				continue
			}
			if !lexicon.Same(next, withMain(slices.Clone(l), id, to)) || variant.Main(next, id) != variant.Main(l, to) {
				t.Fatalf("Join of %d and %d in %v: %v", id, to, l, next)
			}
			if parted, err := variant.Part(next, id); l[i].Main == 0 && len(l[i].Senses) > 0 && (err != api.OK || !lexicon.Same(parted, l)) {
				t.Fatalf("Part of %d after Join in %v: %v, %d", id, l, parted, err)
			}
			l = next
		} else {
			next, err := variant.Part(l, id)
			if (l[i].Main == 0) != (err == api.ErrArg) || (err == api.ErrShort) != (l[i].Main > 0 && len(l[i].Senses) == 0) || err == api.OK && !lexicon.Same(next, withMain(slices.Clone(l), id, 0)) {
				t.Fatalf("Part of %d in %v: %v, %d", id, l, next, err)
			}
			done[err]++
			if err == api.OK {
				l = next
			}
		}
		checkList(t, l)
	}
	for _, err := range []api.Errno{api.OK, api.ErrNone, api.ErrCycle, api.ErrArg, api.ErrShort} {
		if done[err] < 100 {
			t.Errorf("only %d times %d", done[err], err)
		}
	}
}

// R5: results are new memory, and arguments stay as they are.
func TestMemory(t *testing.T) {
	b := book()
	joined, _ := variant.Join(b, 6, 3)
	parted, _ := variant.Part(b, 5)
	if !lexicon.Same(b, book()) {
		t.Fatal(b)
	}
	sample.Wipe(joined)
	sample.Wipe(parted)
	for _, id := range ids {
		clear(variant.Senses(b, id))
		clear(variant.All(b, id))
	}
	if !lexicon.Same(b, book()) {
		t.Error(b)
	}
}

// Large lists do not take long.
func TestLargest(t *testing.T) {
	const n = 10 * api.MaxEntries
	l := []api.Entry{of(1, 0, "dog")}
	for i := range n - 1 {
		l = append(l, of(i+2, i+1))
	}
	if variant.Check(l) != api.OK || variant.Main(l, n) != 1 || len(variant.All(l, 1)) != n-1 || len(variant.Senses(l, n)) != 1 {
		t.Error("a long way")
	}
	if err := variant.Check(withMain(l, 1, n)); err != api.ErrCycle {
		t.Error("a long way without an end:", err)
	}
}

// The functions end for lists that are not right, too.
func TestListsThatAreNotRight(t *testing.T) {
	for _, l := range [][]api.Entry{{of(1, 2), of(2, 3), of(3, 2), of(4, 9), of(2, 0), of(0, 0), of(-1, 0), of(5, 5)}, {of(0, 1), of(1, 0)}} {
		for id := -1; id < 7; id++ {
			variant.Main(l, id)
			variant.All(l, id)
			variant.Senses(l, id)
			variant.Part(l, id)
			for to := -1; to < 7; to++ {
				variant.Join(l, id, to)
			}
		}
	}
}
