package ortho_test

import (
	"math"
	"math/rand"
	"slices"
	"strings"
	"testing"

	"langdoc/api"
	"langdoc/ortho"
)

// segments returns an inventory of that many segments.
func segments(count int) api.Inventory {
	var inv api.Inventory
	for i := range count {
		inv.Segs = append(inv.Segs, api.Phoneme{Name: string(rune('A' + i))})
	}
	return inv
}

// unit returns a unit for some segments.
func unit(graph string, segs ...int) api.Unit {
	return api.Unit{Graph: graph, Segs: segs}
}

// of returns an orthography with some units.
func of(units ...api.Unit) api.Ortho {
	return api.Ortho{Name: "o", Units: units}
}

// with returns an orthography with some letters.
func with(letters ...[]string) api.Ortho {
	return api.Ortho{Name: "o", Letters: letters}
}

// graphs returns that many graphs.
func graphs(count int) []string {
	var l []string
	for i := range count {
		l = append(l, string([]rune{rune('a' + i%26), rune('a' + i/26)}))
	}
	return l
}

// P17.1
func TestCheck(t *testing.T) {
	inv := segments(5)
	var most, more api.Ortho
	for _, s := range graphs(api.MaxUnits) {
		most.Units = append(most.Units, unit(s, 1))
		most.Letters = append(most.Letters, []string{s})
	}
	most.Name = "o"
	more = api.Ortho{Name: "o", Units: append(slices.Clone(most.Units), unit("a", 1)), Letters: append(slices.Clone(most.Letters), []string{"a"})}
	for i, c := range []struct {
		o   api.Ortho
		err api.Errno
	}{
		{of(), api.OK}, {api.Ortho{}, api.ErrName}, {api.Ortho{Name: "A", Units: more.Units}, api.ErrName}, {api.Ortho{Name: strings.Repeat("o", api.MaxName)}, api.OK}, {api.Ortho{Name: strings.Repeat("o", api.MaxName+1)}, api.ErrName},
		{most, api.OK}, {of(more.Units...), api.ErrFull}, {of(make([]api.Unit, api.MaxUnits+1)...), api.ErrFull}, {of(make([]api.Unit, api.MaxUnits)...), api.ErrForm}, {with(more.Letters...), api.ErrFull}, {with(make([][]string, api.MaxUnits+1)...), api.ErrFull}, {with(make([][]string, api.MaxUnits)...), api.ErrShort},
		// Graphs.
		{of(unit("", 1)), api.ErrForm}, {of(unit(" ", 1)), api.ErrForm}, {of(unit("a b", 1)), api.ErrForm}, {of(unit("a ")), api.ErrForm}, {of(unit("a\n", 1)), api.ErrForm}, {of(unit("\x7f", 1)), api.ErrForm}, {of(unit("\xc3", 1)), api.ErrForm}, {of(unit(strings.Repeat("a", api.MaxName), 1)), api.OK}, {of(unit(strings.Repeat("a", api.MaxName+1), 1)), api.ErrForm}, {of(unit("A1-'\u00e9\u0301", 1)), api.OK}, {of(unit("\u00a0", 1)), api.OK}, {of(unit("a", 1), unit("", 1)), api.ErrForm},
		{of(unit("a", 1), unit("a", 2)), api.ErrTwice}, {of(unit("a", 1), unit("b", 1), unit("a")), api.ErrTwice}, {of(unit("a", 1), unit("A", 1)), api.OK}, {of(unit("\u00e9", 1), unit("e\u0301", 1)), api.OK}, {of(unit("a", 1), unit("aa", 1)), api.OK},
		// Segs.
		{of(unit("a")), api.ErrSegment}, {of(unit("a", 1, 5)), api.OK}, {of(unit("a", 5, 5, 5)), api.OK}, {of(unit("a", 1, 1, 1, 1)), api.ErrSegment}, {of(unit("a", make([]int, 30)...)), api.ErrSegment}, {of(unit("a", 0)), api.ErrSegment}, {of(unit("a", 6)), api.ErrSegment}, {of(unit("a", 1, 2, 6)), api.ErrSegment}, {of(unit("a", -1, 2)), api.ErrSegment}, {of(unit("a", math.MinInt)), api.ErrSegment}, {of(unit("a", math.MaxInt)), api.ErrSegment},
		// Letters.
		{with([]string{"a", "A"}, []string{"b"}), api.OK}, {with(graphs(600)), api.OK}, {with(nil), api.ErrShort}, {with([]string{"a"}, []string{}), api.ErrShort}, {with([]string{""}), api.ErrForm}, {with([]string{"a", "b c"}), api.ErrForm}, {with([]string{"\t"}), api.ErrForm}, {with([]string{"\xff"}), api.ErrForm}, {with([]string{strings.Repeat("a", api.MaxName)}), api.OK}, {with([]string{strings.Repeat("a", api.MaxName+1)}), api.ErrForm},
		{with([]string{"a", "a"}), api.ErrTwice}, {with([]string{"a"}, []string{"b", "a"}), api.ErrTwice}, {with([]string{"a", "b"}, []string{"c"}, []string{"b"}), api.ErrTwice}, {with(append(graphs(600), "ha")), api.ErrTwice},
		// The first unit with an error decides, then the number of letters, then the first letter, and its first variant.
		{of(unit("a"), unit("")), api.ErrSegment}, {of(unit("a", 1), unit("a"), unit("")), api.ErrTwice}, {api.Ortho{Name: "o", Units: []api.Unit{unit("a")}, Letters: more.Letters}, api.ErrSegment}, {api.Ortho{Name: "o", Units: []api.Unit{unit("a", 1)}, Letters: append([][]string{nil}, more.Letters...)}, api.ErrFull}, {with([]string{"", "a", "a"}, nil), api.ErrForm}, {with([]string{"a", "a", ""}, nil), api.ErrTwice}, {with(nil, []string{""}), api.ErrShort},
		// Letters are those of no unit, and units are spelled with no letter.
		{api.Ortho{Name: "o", Units: []api.Unit{unit("a", 1)}, Letters: [][]string{{"a"}, {"z"}}}, api.OK},
	} {
		if err := ortho.Check(inv, c.o); err != c.err {
			t.Errorf("%d: Check = %d, want %d", i, err, c.err)
		}
	}
	if ortho.Check(segments(0), of(unit("a", 1))) != api.ErrSegment || ortho.Check(segments(0), of()) != api.OK {
		t.Error("Check without segments")
	}
}

// example has graphs that begin others, two units for one segment, and units of several segments.
func example() api.Ortho {
	return of(unit("t", 1), unit("h", 2), unit("th", 3), unit("thh", 1, 1), unit("T", 1), unit("ks", 4, 5), unit("k", 4), unit("x", 4, 5), unit("q", 4, 2), unit("\u00e9", 6), unit("e", 7), unit("\u0301", 8), unit("www", 9, 9, 9), unit("ww", 9))
}

// P17.2, P17.3
func TestUnitsAndRead(t *testing.T) {
	o := example()
	if err := ortho.Check(segments(9), o); err != api.OK {
		t.Fatal(err)
	}
	for i, c := range []struct {
		s     string
		units []int
		end   int
		w     []int
		at    int
		err   api.Errno
	}{
		{"", nil, 0, nil, 0, api.ErrShort}, {"t", []int{0}, 1, []int{1}, 0, api.OK}, {"th", []int{2}, 2, []int{3}, 0, api.OK}, {"tth", []int{0, 2}, 3, []int{1, 3}, 0, api.OK}, {"thh", []int{3}, 3, []int{1, 1}, 0, api.OK}, {"thhh", []int{3, 1}, 4, []int{1, 1, 2}, 0, api.OK}, {"ht", []int{1, 0}, 2, []int{2, 1}, 0, api.OK}, {"tT", []int{0, 4}, 2, []int{1, 1}, 0, api.OK},
		{"ksk", []int{5, 6}, 3, []int{4, 5, 4}, 0, api.OK}, {"xks", []int{7, 5}, 3, []int{4, 5, 4, 5}, 0, api.OK},
		// The longest unit is taken although the rest cannot be divided then; nothing is put into another order.
		{"wwww", []int{12}, 3, nil, 3, api.ErrSpell}, {"ww", []int{13}, 2, []int{9}, 0, api.OK}, {"w", nil, 0, nil, 0, api.ErrSpell}, {"e\u0301", []int{10, 11}, 3, []int{7, 8}, 0, api.OK}, {"\u00e9", []int{9}, 2, []int{6}, 0, api.OK}, {"\u0301e", []int{11, 10}, 3, []int{8, 7}, 0, api.OK},
		{"ta", []int{0}, 1, nil, 1, api.ErrSpell}, {"\u00e9\u00e9s", []int{9, 9}, 4, nil, 4, api.ErrSpell}, {"t t", []int{0}, 1, nil, 1, api.ErrSpell}, {"\xff", nil, 0, nil, 0, api.ErrSpell}, {"t\xc3", []int{0}, 1, nil, 1, api.ErrSpell}, {" t", nil, 0, nil, 0, api.ErrSpell}, {"t\n", []int{0}, 1, nil, 1, api.ErrSpell},
		{strings.Repeat("t", 24), slices.Repeat([]int{0}, 24), 24, slices.Repeat([]int{1}, 24), 0, api.OK}, {strings.Repeat("t", 25), slices.Repeat([]int{0}, 25), 25, nil, 0, api.ErrLong}, {strings.Repeat("www", 8), slices.Repeat([]int{12}, 8), 24, slices.Repeat([]int{9}, 24), 0, api.OK}, {strings.Repeat("www", 8) + "t", append(slices.Repeat([]int{12}, 8), 0), 25, nil, 0, api.ErrLong}, {strings.Repeat("x", 12), slices.Repeat([]int{7}, 12), 12, slices.Repeat([]int{4, 5}, 12), 0, api.OK}, {strings.Repeat("t", 30) + "a", slices.Repeat([]int{0}, 30), 30, nil, 30, api.ErrSpell},
	} {
		if units, end := ortho.Units(o, c.s); !slices.Equal(units, c.units) || end != c.end {
			t.Errorf("%d: Units of %q: %v, %d", i, c.s, units, end)
		}
		if w, at, err := ortho.Read(o, c.s); !slices.Equal(w, c.w) || at != c.at || err != c.err {
			t.Errorf("%d: Read of %q: %v, %d, %d", i, c.s, w, at, err)
		}
	}
	long := strings.Repeat("thh", 100000)
	if units, end := ortho.Units(o, long); len(units) != 100000 || end != len(long) {
		t.Error("a long string", len(units), end)
	}
	for _, s := range []string{"", "t"} {
		if units, end := ortho.Units(of(), s); len(units) != 0 || end != 0 {
			t.Error("Units without units", units, end)
		}
	}
}

// P17.4, P17.5
func TestSpellAndExact(t *testing.T) {
	o := example()
	for i, c := range []struct {
		w     []int
		s     string
		at    int
		err   api.Errno
		exact bool
	}{
		{nil, "", 0, api.ErrShort, false}, {[]int{1}, "t", 0, api.OK, true}, {[]int{3}, "th", 0, api.OK, true}, {[]int{1, 2}, "th", 0, api.OK, false}, {[]int{1, 1}, "thh", 0, api.OK, true}, {[]int{1, 1, 1}, "thht", 0, api.OK, true}, {[]int{1, 1, 2}, "thhh", 0, api.OK, true}, {[]int{1, 3}, "tth", 0, api.OK, true}, {[]int{3, 2}, "thh", 0, api.OK, false},
		{[]int{4, 5}, "ks", 0, api.OK, true}, {[]int{4, 2}, "q", 0, api.OK, true}, {[]int{4, 4, 5}, "kks", 0, api.OK, true}, {[]int{4}, "k", 0, api.OK, true}, {[]int{9}, "ww", 0, api.OK, true}, {[]int{9, 9}, "wwww", 0, api.OK, false}, {[]int{9, 9, 9}, "www", 0, api.OK, true}, {[]int{9, 9, 9, 9}, "wwwww", 0, api.OK, true}, {[]int{6, 7, 8}, "\u00e9e\u0301", 0, api.OK, true},
		{[]int{5}, "", 0, api.ErrSpell, false}, {[]int{2, 5, 1}, "", 1, api.ErrSpell, false}, {[]int{4, 5, 5}, "", 2, api.ErrSpell, false}, {[]int{0}, "", 0, api.ErrSpell, false}, {[]int{1, 1, -1}, "", 2, api.ErrSpell, false}, {[]int{10}, "", 0, api.ErrSpell, false}, {[]int{1, math.MaxInt}, "", 1, api.ErrSpell, false},
		{slices.Repeat([]int{2}, 24), strings.Repeat("h", 24), 0, api.OK, true}, {slices.Repeat([]int{2}, 25), "", 0, api.ErrLong, false}, {make([]int, 25), "", 0, api.ErrLong, false}, {make([]int, 24), "", 0, api.ErrSpell, false}, {append(slices.Repeat([]int{2}, 23), 5), "", 23, api.ErrSpell, false},
	} {
		s, at, err := ortho.Spell(o, c.w)
		if exact := ortho.Exact(o, c.w); s != c.s || at != c.at || err != c.err || exact != c.exact {
			t.Errorf("%d: Spell of %v: %q, %d, %d, %t", i, c.w, s, at, err, exact)
		}
	}
	// What is spelled may be read as more segments than a word has.
	o = of(unit("a", 1), unit("aa", 2, 2, 2))
	if s, _, err := ortho.Spell(o, slices.Repeat([]int{1}, 24)); s != strings.Repeat("a", 24) || err != api.OK || ortho.Exact(o, slices.Repeat([]int{1}, 24)) {
		t.Error(s, err)
	}
	if s, at, err := ortho.Spell(of(), []int{1}); s != "" || at != 0 || err != api.ErrSpell {
		t.Error("Spell without units", s, at, err)
	}
}

// some returns an orthography of short units.
func some(random *rand.Rand) api.Ortho {
	o := of()
	for _, i := range random.Perm(12)[:1+random.Intn(8)] {
		graph := [...]string{"a", "b", "c", "aa", "ab", "ba", "bc", "ca", "aab", "bab", "abc", "cc"}[i]
		var segs []int
		for range 1 + random.Intn(3) {
			segs = append(segs, 1+random.Intn(3))
		}
		o.Units = append(o.Units, unit(graph, segs...))
	}
	return o
}

// strings3 returns all strings of at most so many bytes of a, b and c.
func strings3(length int) []string {
	l := []string{""}
	for at := 0; at < len(l); at++ {
		if len(l[at]) < length {
			l = append(l, l[at]+"a", l[at]+"b", l[at]+"c")
		}
	}
	return l
}

// longest returns the first of the sizes that is the greatest, if it is above 0, or -1.
func longest(sizes []int) int {
	found, most := -1, 0
	for i, size := range sizes {
		if size > most {
			found, most = i, size
		}
	}
	return found
}

// divided returns what Units returns, from the definition.
func divided(o api.Ortho, s string) ([]int, int) {
	var units []int
	at := 0
	for at < len(s) {
		sizes := make([]int, len(o.Units))
		for i, u := range o.Units {
			if strings.HasPrefix(s[at:], u.Graph) {
				sizes[i] = len(u.Graph)
			}
		}
		i := longest(sizes)
		if i < 0 {
			break
		}
		units = append(units, i)
		at += len(o.Units[i].Graph)
	}
	return units, at
}

// spelled returns what Spell returns for a word that is neither empty nor too long, from the definition.
func spelled(o api.Ortho, w []int) (string, int, api.Errno) {
	s, at := "", 0
	for at < len(w) {
		sizes := make([]int, len(o.Units))
		for i, u := range o.Units {
			if len(u.Segs) <= len(w)-at && slices.Equal(u.Segs, w[at:at+len(u.Segs)]) {
				sizes[i] = len(u.Segs)
			}
		}
		i := longest(sizes)
		if i < 0 {
			return "", at, api.ErrSpell
		}
		s += o.Units[i].Graph
		at += len(o.Units[i].Segs)
	}
	return s, 0, api.OK
}

// P17.2 to P17.6, of many orthographies and all short strings and words.
func TestManyOrthographies(t *testing.T) {
	random := rand.New(rand.NewSource(17))
	texts := strings3(5)
	for range 200 {
		o := some(random)
		if err := ortho.Check(segments(3), o); err != api.OK {
			t.Fatal(o, err)
		}
		spellings := map[string]bool{}
		for _, s := range texts {
			units, end := divided(o, s)
			if l, at := ortho.Units(o, s); !slices.Equal(l, units) || at != end {
				t.Fatalf("%v: Units of %q: %v, %d", o, s, l, at)
			}
			checkRead(t, o, s, units, end)
			// The same strings stand for words of the segments 1 to 3.
			w := make([]int, len(s))
			for i := range s {
				w[i] = int(s[i]-'a') + 1
			}
			if len(w) > 0 {
				checkSpell(t, o, w, spellings)
			}
		}
	}
}

// checkRead checks Read of a string, of which the units are known.
func checkRead(t *testing.T, o api.Ortho, s string, units []int, end int) {
	var want []int
	for _, i := range units {
		want = append(want, o.Units[i].Segs...)
	}
	w, at, err := ortho.Read(o, s)
	switch {
	case s == "":
		return
	case end < len(s):
		if len(w) != 0 || at != end || err != api.ErrSpell {
			t.Fatalf("%v: Read of %q: %v, %d, %d", o, s, w, at, err)
		}
	case !slices.Equal(w, want) || at != 0 || err != api.OK || len(w) < len(units) || len(w) > 3*len(s):
		t.Fatalf("%v: Read of %q: %v, %d, %d", o, s, w, at, err)
	}
}

// checkSpell checks Spell and Exact of a word; the spellings of exact words are added.
func checkSpell(t *testing.T, o api.Ortho, w []int, spellings map[string]bool) {
	s, at, err := ortho.Spell(o, w)
	if want, end, e := spelled(o, w); s != want || at != end || err != e {
		t.Fatalf("%v: Spell of %v: %q, %d, %d", o, w, s, at, err)
	}
	read, _, e := ortho.Read(o, s)
	exact := err == api.OK && e == api.OK && slices.Equal(read, w)
	if ortho.Exact(o, w) != exact || exact && spellings[s] {
		t.Fatalf("%v: Exact of %v is %t, spelled %q", o, w, !exact, s)
	}
	if exact {
		spellings[s] = true
	}
}

// P17.6: strings one after the other, where no graph begins another one.
func TestOneAfterTheOther(t *testing.T) {
	random := rand.New(rand.NewSource(6))
	texts, pairs := strings3(4), 0
	for range 60 {
		o := some(random)
		begins := false
		for i, u := range o.Units {
			for k, v := range o.Units {
				begins = begins || i != k && strings.HasPrefix(v.Graph, u.Graph)
			}
		}
		if begins {
			continue
		}
		for _, a := range texts {
			v, _, e := ortho.Read(o, a)
			if e != api.OK {
				continue
			}
			for _, b := range texts {
				w, _, err := ortho.Read(o, b)
				both, _, errOfBoth := ortho.Read(o, a+b)
				if err != api.OK || len(v)+len(w) > api.MaxWord {
					continue
				}
				if errOfBoth != api.OK || !slices.Equal(both, slices.Concat(v, w)) {
					t.Fatalf("%v: Read of %q and %q, one after the other: %v", o, a, b, both)
				}
				pairs++
			}
		}
	}
	if pairs < 100 {
		t.Errorf("only %d pairs", pairs)
	}
}

// R5: what is returned is new memory, and arguments stay as they are.
func TestMemory(t *testing.T) {
	o := of(unit("a", 1, 2), unit("b", 3))
	w, _, _ := ortho.Read(o, "ab")
	v, _, _ := ortho.Read(o, "a")
	clear(w)
	clear(v)
	units, _ := ortho.Units(o, "ab")
	clear(units)
	in := []int{1, 2, 3}
	if s, _, err := ortho.Spell(o, in); s != "ab" || err != api.OK || !ortho.Exact(o, in) || !slices.Equal(in, []int{1, 2, 3}) {
		t.Error(s, err, in)
	}
}

// The functions end for orthographies that are not right, too.
func TestOrthographiesThatAreNotRight(t *testing.T) {
	for _, o := range []api.Ortho{of(unit("")), of(unit("", 1)), of(unit("a")), of(unit("a", 1, 2, 3, 4), unit("a", 1)), of(unit(strings.Repeat("a", 1000), 1))} {
		for _, s := range []string{"", "a", "aa", strings.Repeat("a", 1000)} {
			if _, end := ortho.Units(o, s); end > len(s) {
				t.Errorf("Units of %q: %d", s, end)
			}
			ortho.Read(o, s)
		}
		for _, w := range [][]int{nil, {1}, {1, 2, 3, 4}, {0}} {
			ortho.Spell(o, w)
			ortho.Exact(o, w)
		}
	}
}
