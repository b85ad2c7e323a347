package convert_test

import (
	"math"
	"math/rand"
	"slices"
	"strings"
	"testing"

	"langdoc/api"
	"langdoc/convert"
	"langdoc/ortho"
)

// unit returns a unit, and of an orthography of units.
func unit(graph string, segs ...int) api.Unit {
	return api.Unit{Graph: graph, Segs: segs}
}

func of(units ...api.Unit) api.Ortho {
	return api.Ortho{Name: "o", Units: units}
}

// latin and other are orthographies of the segments 1 to 4, of which other cannot spell the last one.
func latin() api.Ortho {
	return of(unit("t", 1), unit("h", 2), unit("th", 3), unit("d", 1), unit("x", 4), unit("ks", 2, 1))
}

func other() api.Ortho {
	return of(unit("p", 1), unit("q", 2), unit("r", 3), unit("pq", 1, 2), unit("s", 1, 1, 1))
}

// inventory returns one of 9 segments.
func inventory() api.Inventory {
	var inv api.Inventory
	for i := range 9 {
		inv.Segs = append(inv.Segs, api.Phoneme{Name: string(rune('a' + i))})
	}
	return inv
}

func TestExamples(t *testing.T) {
	for i, o := range []api.Ortho{latin(), other()} {
		if err := ortho.Check(inventory(), o); err != api.OK {
			t.Error("orthography", i, err)
		}
	}
	// Example 1.
	two := of(unit("c", 1), unit("k", 1))
	if l := convert.Spellings(two, []int{1}, 9); !slices.Equal(l, []string{"c", "k"}) {
		t.Error(l)
	}
	if s, _, err := convert.Normal(two, "k"); s != "c" || err != api.OK || convert.Faithful(two, "k") || !convert.Faithful(two, "c") {
		t.Error(s, err)
	}
}

// P18.1
func TestConvert(t *testing.T) {
	long := strings.Repeat("t", api.MaxWord)
	for i, c := range []struct {
		a, b api.Ortho
		s    string
		want string
		n    int
		err  api.Errno
	}{
		{latin(), other(), "t", "p", 0, api.OK}, {latin(), other(), "dh", "pq", 0, api.OK}, {latin(), other(), "thht", "rqp", 0, api.OK}, {latin(), other(), "dddh", "sq", 0, api.OK}, {latin(), other(), "ddks", "ppqp", 0, api.OK}, {latin(), other(), "ddd", "s", 0, api.OK}, {latin(), other(), long, strings.Repeat("s", 8), 0, api.OK}, {latin(), latin(), "htd", "kst", 0, api.OK},
		// Two spellings may be read as one that is read differently.
		{other(), latin(), "pq", "th", 0, api.OK}, {other(), latin(), "r", "th", 0, api.OK}, {other(), latin(), "qp", "ks", 0, api.OK},
		// The error of Read.
		{latin(), other(), "", "", 0, api.ErrShort}, {latin(), other(), "q", "", 0, api.ErrSpell}, {latin(), other(), "ththq", "", 4, api.ErrSpell}, {latin(), other(), "tq", "", 1, api.ErrSpell}, {latin(), other(), "xxq", "", 2, api.ErrSpell}, {latin(), other(), long + "t", "", 0, api.ErrLong}, {latin(), other(), long + "xq", "", 25, api.ErrSpell}, {of(), other(), "t", "", 0, api.ErrSpell},
		// That of Spell.
		{latin(), other(), "x", "", 0, api.ErrSpell}, {latin(), other(), "thtx", "", 2, api.ErrSpell}, {latin(), other(), "ksxh", "", 2, api.ErrSpell}, {latin(), of(), "t", "", 0, api.ErrSpell}, {latin(), of(), "", "", 0, api.ErrShort},
	} {
		if s, n, err := convert.Convert(c.a, c.b, c.s); s != c.want || n != c.n || err != c.err {
			t.Errorf("%d: Convert of %q: %q, %d, %d", i, c.s, s, n, err)
		}
	}
}

// P18.2
func TestSame(t *testing.T) {
	for i, c := range []struct {
		a, b api.Ortho
		s, u string
		want bool
	}{
		{latin(), other(), "t", "p", true}, {latin(), other(), "d", "p", true}, {latin(), other(), "dh", "pq", true}, {latin(), other(), "th", "r", true}, {latin(), other(), "th", "pq", false}, {latin(), other(), "ddd", "s", true}, {latin(), other(), "ddd", "ppp", true}, {latin(), latin(), "ks", "hd", true}, {latin(), latin(), "th", "dh", false}, {latin(), other(), "tt", "p", false}, {latin(), other(), "t", "pp", false},
		{latin(), other(), "", "", false}, {latin(), other(), "t", "", false}, {latin(), other(), "", "p", false}, {latin(), other(), "q", "q", false}, {latin(), other(), "h", "h", false}, {latin(), latin(), "q", "q", false}, {latin(), latin(), strings.Repeat("t", 25), strings.Repeat("t", 25), false}, {latin(), latin(), strings.Repeat("t", 24), strings.Repeat("d", 24), true},
	} {
		if convert.Same(c.a, c.b, c.s, c.u) != c.want || convert.Same(c.b, c.a, c.u, c.s) != c.want {
			t.Errorf("%d: Same of %q and %q", i, c.s, c.u)
		}
	}
}

// P18.3
func TestSpellings(t *testing.T) {
	deep := of(unit("a", 1), unit("ab", 2), unit("abc", 3), unit("b", 4), unit("c", 5), unit("bc", 6))
	far := of(unit("a", 1), unit("b", 2), unit("c", 3), unit("abcb", 4), unit("d", 5))
	for i, c := range []struct {
		o    api.Ortho
		w    []int
		most int
		want []string
	}{
		{latin(), []int{1}, 9, []string{"d", "t"}}, {latin(), []int{2}, 9, []string{"h"}}, {latin(), []int{3}, 9, []string{"th"}}, {latin(), []int{1, 2}, 9, []string{"dh"}}, {latin(), []int{2, 1}, 9, []string{"hd", "ht", "ks"}}, {latin(), []int{1, 1, 2}, 9, []string{"ddh", "tdh"}}, {latin(), []int{1, 2, 1}, 9, []string{"dhd", "dht", "dks", "tks"}}, {latin(), []int{3, 2}, 9, []string{"thh"}},
		// The first ones.
		{latin(), []int{1, 2, 1}, 4, []string{"dhd", "dht", "dks", "tks"}}, {latin(), []int{1, 2, 1}, 3, []string{"dhd", "dht", "dks"}}, {latin(), []int{1, 2, 1}, 1, []string{"dhd"}}, {latin(), []int{1, 2, 1}, 0, nil}, {latin(), []int{1, 2, 1}, -1, nil}, {latin(), []int{1}, math.MinInt, nil}, {latin(), []int{1, 1}, math.MaxInt, []string{"dd", "dt", "td", "tt"}},
		// No word, and none that can be spelled.
		{latin(), nil, 9, nil}, {latin(), []int{5}, 9, nil}, {latin(), []int{1, 0}, 9, nil}, {latin(), []int{-1}, 9, nil}, {latin(), []int{math.MaxInt, 1}, 9, nil}, {latin(), slices.Repeat([]int{2}, 25), 9, nil}, {latin(), slices.Repeat([]int{2}, 24), 9, []string{strings.Repeat("h", 24)}}, {of(), []int{1}, 9, nil},
		// A string is read as its longest units, from the left: what is behind a unit may make it longer, over several units.
		{deep, []int{1, 4}, 9, nil}, {deep, []int{2, 5}, 9, nil}, {deep, []int{1, 6}, 9, nil}, {deep, []int{1, 4, 5}, 9, nil}, {deep, []int{3}, 9, []string{"abc"}}, {deep, []int{4, 5}, 9, nil}, {deep, []int{5, 4}, 9, []string{"cb"}}, {deep, []int{1, 1, 6}, 9, nil}, {deep, []int{2, 6}, 9, []string{"abbc"}},
		{far, []int{1, 2, 3, 2}, 9, nil}, {far, []int{1, 2, 3, 1}, 9, []string{"abca"}}, {far, []int{1, 2, 3, 5, 2}, 9, []string{"abcdb"}}, {far, []int{1, 1, 2, 3, 2}, 9, nil}, {far, []int{4, 3, 2}, 9, []string{"abcbcb"}}, {far, []int{5, 1, 2, 3}, 9, []string{"dabc"}},
	} {
		if err := ortho.Check(inventory(), c.o); err != api.OK {
			t.Fatal(i, err)
		}
		if l := convert.Spellings(c.o, c.w, c.most); !slices.Equal(l, c.want) {
			t.Errorf("%d: Spellings of %v: %q, want %q", i, c.w, l, c.want)
		}
	}
}

// P18.3, R1: Spellings finds the first ones, and that there are none, among more candidates than there is time for.
func TestManyCandidates(t *testing.T) {
	var units []api.Unit
	for i := range api.MaxUnits {
		units = append(units, unit(string([]byte{byte('a' + i/10), byte('0' + i%10)}), 1))
	}
	ones := slices.Repeat([]int{1}, api.MaxWord)
	l := convert.Spellings(of(units...), ones, 1000)
	if len(l) != 1000 || l[0] != strings.Repeat("a0", 24) || l[999] != strings.Repeat("a0", 22)+"a9j9" || !slices.IsSorted(l) {
		t.Error("the first spellings of a word:", len(l))
	}
	few := of(unit("x", 1), unit("y", 1), unit("z", 2), unit("v", 3), unit("w", 3))
	if l := convert.Spellings(few, append(slices.Repeat([]int{1, 3}, 7), slices.Repeat([]int{2}, 10)...), math.MaxInt); len(l) != 1<<14 || l[1<<13] != "yvxvxvxvxvxvxv"+strings.Repeat("z", 10) || !slices.IsSorted(l) {
		t.Error("all spellings of a word:", len(l))
	}
	// Only the end, or only the beginning, shows that no spelling is read as the word.
	end := of(unit("x", 1), unit("y", 1), unit("z", 2), unit("xz", 3), unit("yz", 3))
	if l := convert.Spellings(end, append(slices.Repeat([]int{1}, 23), 2), math.MaxInt); len(l) != 0 {
		t.Error("no spelling is read to the end:", len(l))
	}
	begin := of(unit("x", 1), unit("y", 1), unit("z", 2), unit("zx", 3), unit("zy", 3))
	if l := convert.Spellings(begin, append([]int{2}, slices.Repeat([]int{1}, 23)...), math.MaxInt); len(l) != 0 {
		t.Error("no spelling is read from the beginning:", len(l))
	}
	if l := convert.Spellings(begin, append([]int{4}, slices.Repeat([]int{1}, 23)...), math.MaxInt); len(l) != 0 {
		t.Error("a word without a unit for its first segment:", len(l))
	}
}

// each calls visit for the Graphs of all ways to write a word as units.
func each(o api.Ortho, w []int, head string, visit func(s string)) {
	if len(w) == 0 {
		visit(head)
		return
	}
	for _, u := range o.Units {
		if n := len(u.Segs); n <= len(w) && slices.Equal(u.Segs, w[:n]) {
			each(o, w[n:], head+u.Graph, visit)
		}
	}
}

// spellings are those of the definition.
func spellings(o api.Ortho, w []int) []string {
	var l []string
	each(o, w, "", func(s string) {
		if read, _, err := ortho.Read(o, s); err == api.OK && slices.Equal(read, w) {
			l = append(l, s)
		}
	})
	slices.Sort(l)
	return slices.Compact(l)
}

// script returns an orthography with units of a few letters.
func script(random *rand.Rand) api.Ortho {
	var o api.Ortho
	o.Name = "o"
	letters := "abc"[:2+random.Intn(2)]
	for range 2 + random.Intn(7) {
		var graph string
		for range 1 + random.Intn(5)*random.Intn(2) {
			graph += letters[random.Intn(len(letters)):][:1]
		}
		var segs []int
		for range 1 + random.Intn(3)*random.Intn(2) {
			segs = append(segs, 1+random.Intn(3))
		}
		if !slices.ContainsFunc(o.Units, func(u api.Unit) bool { return u.Graph == graph }) {
			o.Units = append(o.Units, unit(graph, segs...))
		}
	}
	return o
}

// P18.3, P18.5: Spellings are what the definition says, for many orthographies and words.
func TestManyOrthographies(t *testing.T) {
	random := rand.New(rand.NewSource(18))
	several := 0
	for range 6000 {
		o := script(random)
		if err := ortho.Check(inventory(), o); err != api.OK {
			t.Fatal(o, err)
		}
		var s string
		for range 1 + random.Intn(3) {
			s += o.Units[random.Intn(len(o.Units))].Graph
		}
		w := []int{1, 2, 1}
		if read, _, err := ortho.Read(o, s); err == api.OK {
			w = read
			if !slices.Contains(convert.Spellings(o, w, math.MaxInt), s) {
				t.Fatalf("%q is not among the Spellings of %v in %v", s, w, o)
			}
		}
		want := spellings(o, w)
		for _, most := range []int{0, 1, 2, 3, len(want) - 1, len(want), len(want) + 1, 1000} {
			if l := convert.Spellings(o, w, most); !slices.Equal(l, want[:min(max(most, 0), len(want))]) {
				t.Fatalf("the first %d Spellings of %v in %v: %q, want %q", most, w, o, l, want)
			}
		}
		if len(want) > 3 {
			several++
		}
		checkLaws(t, o, script(random), s)
	}
	if several < 300 {
		t.Error("only", several, "words have more than three spellings")
	}
}

// P18.1, P18.2, P18.4, P18.5
func checkLaws(t *testing.T, a, b api.Ortho, s string) {
	w, n, err := ortho.Read(a, s)
	want := ""
	if err == api.OK {
		want, n, err = ortho.Spell(b, w)
	}
	got, m, e := convert.Convert(a, b, s)
	if got != want || m != n || e != err {
		t.Fatalf("Convert of %q from %v to %v: %q, %d, %d", s, a, b, got, m, e)
	}
	if e == api.OK && ortho.Exact(b, w) && !convert.Same(a, b, s, got) {
		t.Fatalf("%q in %v is not the same as %q in %v", s, a, got, b)
	}
	normal, n, err := convert.Normal(a, s)
	if x, m, e := convert.Convert(a, a, s); normal != x || n != m || err != e || convert.Faithful(a, s) != (err == api.OK && normal == s) {
		t.Fatalf("Normal of %q in %v: %q, %d, %d", s, a, normal, n, err)
	}
	if err != api.OK || !ortho.Exact(a, w) {
		return
	}
	if again, _, err := convert.Normal(a, normal); again != normal || err != api.OK || !convert.Faithful(a, normal) {
		t.Fatalf("Normal of Normal of %q in %v: %q, %d", s, a, again, err)
	}
}

// P18.4
func TestNormal(t *testing.T) {
	for i, c := range []struct {
		s, want string
		n       int
		err     api.Errno
	}{
		{"d", "t", 0, api.OK}, {"t", "t", 0, api.OK}, {"dh", "th", 0, api.OK}, {"th", "th", 0, api.OK}, {"hd", "ks", 0, api.OK}, {"ks", "ks", 0, api.OK}, {"xx", "xx", 0, api.OK}, {"", "", 0, api.ErrShort}, {"q", "", 0, api.ErrSpell}, {"thq", "", 2, api.ErrSpell}, {strings.Repeat("t", 25), "", 0, api.ErrLong},
	} {
		s, n, err := convert.Normal(latin(), c.s)
		if s != c.want || n != c.n || err != c.err {
			t.Errorf("%d: Normal of %q: %q, %d, %d", i, c.s, s, n, err)
		}
		if faithful := convert.Faithful(latin(), c.s); faithful != (c.err == api.OK && c.s == c.want) {
			t.Errorf("%d: Faithful of %q: %t", i, c.s, faithful)
		}
	}
}

// R5: results are new memory, and arguments stay as they are.
func TestMemory(t *testing.T) {
	o, w := latin(), []int{2, 1}
	clear(convert.Spellings(o, w, 9))
	if l := convert.Spellings(o, w, 9); !slices.Equal(l, []string{"hd", "ht", "ks"}) || !slices.Equal(w, []int{2, 1}) {
		t.Error(l, w)
	}
	for i, u := range latin().Units {
		if o.Units[i].Graph != u.Graph || !slices.Equal(o.Units[i].Segs, u.Segs) {
			t.Error(o)
		}
	}
}

// The functions end for orthographies that are not right, too.
func TestOrthographiesThatAreNotRight(t *testing.T) {
	for _, o := range []api.Ortho{of(unit("", 1)), of(unit("a")), of(unit(""), unit("", 1), unit("a", 1), unit("a", 1))} {
		convert.Spellings(o, []int{1, 1, 1}, 100)
		convert.Convert(o, o, "aa")
		convert.Normal(o, "")
		convert.Faithful(o, "a")
		convert.Same(o, o, "a", "a")
	}
}
