package collate_test

import (
	"cmp"
	"math"
	"math/rand"
	"slices"
	"strings"
	"testing"

	"langdoc/api"
	"langdoc/collate"
	"langdoc/ortho"
)

// of returns an orthography with an alphabet.
func of(letters ...[]string) api.Ortho {
	return api.Ortho{Name: "o", Letters: letters}
}

// latin has the letters a, b, ng, n, nn and e, some of them with variants.
func latin() api.Ortho {
	return of([]string{"a", "A", "\u00e1"}, []string{"b"}, []string{"ng", "Ng"}, []string{"n", "N"}, []string{"nn"}, []string{"e", "eee"})
}

func TestExample(t *testing.T) {
	if err := ortho.Check(api.Inventory{}, latin()); err != api.OK {
		t.Error("the orthography of the tests is not right:", err)
	}
}

// P19.1
func TestLetters(t *testing.T) {
	for s, c := range map[string]struct {
		primary, secondary []int
		ok                 bool
	}{
		"": {nil, nil, true}, "a": {[]int{0}, []int{0}, true}, "Ab": {[]int{0, 1}, []int{1, 0}, true}, "\u00e1": {[]int{0}, []int{2}, true}, "nga": {[]int{2, 0}, []int{0, 0}, true}, "Nga": {[]int{2, 0}, []int{1, 0}, true}, "na": {[]int{3, 0}, []int{0, 0}, true},
		// The longest variant of any letter, from the left.
		"nn": {[]int{4}, []int{0}, true}, "nnn": {[]int{4, 3}, []int{0, 0}, true}, "Nn": {[]int{3, 3}, []int{1, 0}, true}, "eee": {[]int{5}, []int{1}, true}, "ee": {[]int{5, 5}, []int{0, 0}, true}, "eeee": {[]int{5, 5}, []int{1, 0}, true}, "eeeee": {[]int{5, 5, 5}, []int{1, 0, 0}, true},
		// Bytes come after all letters.
		"\x00": {[]int{6}, []int{0}, false}, "\xff": {[]int{261}, []int{0}, false}, "nng": {[]int{4, 6 + 'g'}, []int{0, 0}, false}, "!A": {[]int{6 + '!', 0}, []int{0, 1}, false}, "\u00e9": {[]int{6 + 0xc3, 6 + 0xa9}, []int{0, 0}, false}, "a b": {[]int{0, 6 + ' ', 1}, []int{0, 0, 0}, false}, "\xc3\u00e1": {[]int{6 + 0xc3, 0}, []int{0, 2}, false}, "G": {[]int{6 + 'G'}, []int{0}, false},
	} {
		p, q, ok := collate.Letters(latin(), s)
		if !slices.Equal(p, c.primary) || !slices.Equal(q, c.secondary) || ok != c.ok {
			t.Errorf("Letters of %q: %v, %v, %t", s, p, q, ok)
		}
	}
	if p, q, ok := collate.Letters(of(), "ab"); !slices.Equal(p, []int{'a', 'b'}) || !slices.Equal(q, []int{0, 0}) || ok {
		t.Error("Letters without an alphabet:", p, q, ok)
	}
}

// sorted are strings in the order of latin.
var sorted = []string{
	"", "a", "A", "\u00e1", "aa", "aA", "a\u00e1", "Aa", "AA", "\u00e1a", "aab", "ab", "Ab", "a!", "b", "ba", "ng", "Ng", "nga", "ngA", "Nga", "ngb", "n", "N", "na", "nA", "Na", "nb", "nn", "nna", "nnn", "nnN", "nng", "e", "eee", "ea", "eeea", "ee", "eeee", "eea", "!", "!a", "!A", "!!", "G", "c", "\x7f", "\xc3", "\xc3\xa9", "\xff",
}

// P19.2
func TestCompare(t *testing.T) {
	for i, s := range sorted {
		for j, u := range sorted {
			if c := collate.Compare(latin(), s, u); c != cmp.Compare(i, j) {
				t.Errorf("Compare of %q and %q: %d", s, u, c)
			}
		}
	}
	// Primary keys come before secondary ones, and these decide from the left.
	for _, c := range [][2]string{{"Aa", "ab"}, {"\u00e1", "aa"}, {"aA", "Aa"}, {"Nga", "na"}, {"nga", "Nga"}, {"eeea", "eea"}, {"\u00e1\u00e1", "ab"}} {
		if collate.Compare(latin(), c[0], c[1]) != -1 || collate.Compare(latin(), c[1], c[0]) != 1 {
			t.Errorf("Compare of %q and %q", c[0], c[1])
		}
	}
	if collate.Compare(of(), "a", "B") != 1 || collate.Compare(of(), "", "") != 0 || collate.Compare(of([]string{"b"}, []string{"a"}), "a", "b") != 1 {
		t.Error("Compare in other alphabets")
	}
}

// P19.3
func TestSort(t *testing.T) {
	random := rand.New(rand.NewSource(19))
	l, want := slices.Concat(sorted, sorted[5:9]), slices.Concat(sorted[:5], nil)
	for _, s := range sorted[5:9] {
		want = append(want, s, s)
	}
	want = append(want, sorted[9:]...)
	for range 100 {
		random.Shuffle(len(l), func(i, j int) { l[i], l[j] = l[j], l[i] })
		before := slices.Clone(l)
		if got := collate.Sort(latin(), l); !slices.Equal(got, want) || !slices.Equal(l, before) {
			t.Fatalf("Sort: %q", got)
		}
	}
	if len(collate.Sort(latin(), nil)) != 0 || !slices.Equal(collate.Sort(of(), []string{"b", "", "B", ""}), []string{"", "", "B", "b"}) {
		t.Error("Sort of few")
	}
}

// P19.4
func TestSectionAndHead(t *testing.T) {
	for s, want := range map[string]int{"": -1, "a": 0, "\u00e1b": 0, "ba": 1, "ng": 2, "Ng!": 2, "n": 3, "Nn": 3, "nn": 4, "nnng": 4, "eee": 5, "!": -1, "!a": -1, "G": -1, "\x00": -1, "\xff": -1, "\u00e9": -1} {
		if section := collate.Section(latin(), s); section != want {
			t.Errorf("Section of %q: %d", s, section)
		}
	}
	for i, want := range map[int]string{0: "a", 1: "b", 2: "ng", 5: "e", 6: "", -1: "", math.MaxInt: "", math.MinInt: ""} {
		if head := collate.Head(latin(), i); head != want {
			t.Errorf("Head of %d: %q", i, head)
		}
	}
	if collate.Section(of(), "a") != -1 || collate.Head(of(), 0) != "" {
		t.Error("without an alphabet")
	}
}

// alphabet returns an orthography with some letters of a few bytes.
func alphabet(random *rand.Rand) api.Ortho {
	o := of()
	used := map[string]bool{}
	for range random.Intn(6) {
		var variants []string
		for range 1 + random.Intn(3) {
			if v := text(random, 1+random.Intn(3)); !used[v] {
				used[v] = true
				variants = append(variants, v)
			}
		}
		if len(variants) > 0 {
			o.Letters = append(o.Letters, variants)
		}
	}
	return o
}

func text(random *rand.Rand, n int) string {
	var b strings.Builder
	for range n {
		b.WriteByte("abc!"[random.Intn(4)])
	}
	return b.String()
}

// letters divides a string, from the definition.
func letters(o api.Ortho, s string) ([]int, []int, bool) {
	if s == "" {
		return nil, nil, true
	}
	i, j, length, ok := len(o.Letters)+int(s[0]), 0, 1, false
	for a, variants := range o.Letters {
		for b, v := range variants {
			if strings.HasPrefix(s, v) && (!ok || len(v) > length) {
				i, j, length, ok = a, b, len(v), true
			}
		}
	}
	p, q, rest := letters(o, s[length:])
	return append([]int{i}, p...), append([]int{j}, q...), ok && rest
}

// P19.1 to P19.5: the definitions and the laws hold of many alphabets and strings.
func TestManyAlphabets(t *testing.T) {
	random := rand.New(rand.NewSource(20))
	for range 3000 {
		o := alphabet(random)
		if err := ortho.Check(api.Inventory{}, o); err != api.OK {
			t.Fatal(o, err)
		}
		var l []string
		for range 6 {
			l = append(l, text(random, random.Intn(6)))
		}
		for _, s := range l {
			p, q, ok := letters(o, s)
			x, y, full := collate.Letters(o, s)
			if !slices.Equal(x, p) || !slices.Equal(y, q) || full != ok {
				t.Fatalf("Letters of %q in %v: %v, %v, %t", s, o.Letters, x, y, full)
			}
			section := -1
			if s != "" && p[0] < len(o.Letters) {
				section = p[0]
			}
			if got := collate.Section(o, s); got != section {
				t.Fatalf("Section of %q in %v: %d", s, o.Letters, got)
			}
			for _, u := range l {
				checkOrder(t, o, s, u)
			}
		}
		checkSorted(t, o, l)
	}
}

// checkOrder compares two strings from the definition; that is a total order, as it compares their keys.
func checkOrder(t *testing.T, o api.Ortho, s, u string) {
	p, q, _ := letters(o, s)
	v, w, _ := letters(o, u)
	want := cmp.Or(slices.Compare(p, v), slices.Compare(q, w), strings.Compare(s, u))
	if c := collate.Compare(o, s, u); c != want || c == 0 && s != u {
		t.Fatalf("Compare of %q and %q in %v: %d, want %d", s, u, o.Letters, c, want)
	}
}

// checkSorted checks that Sort sorts, and that the sections increase but for those without one at the ends.
func checkSorted(t *testing.T, o api.Ortho, l []string) {
	got := collate.Sort(o, l)
	a, b := slices.Sorted(slices.Values(l)), slices.Sorted(slices.Values(got))
	if !slices.Equal(a, b) || !slices.IsSortedFunc(got, func(s, u string) int { return collate.Compare(o, s, u) }) {
		t.Fatalf("Sort of %q in %v: %q", l, o.Letters, got)
	}
	var places []int
	for _, s := range got {
		section := collate.Section(o, s)
		if section == -1 && s != "" {
			section = math.MaxInt
		}
		places = append(places, section)
	}
	if !slices.IsSorted(places) {
		t.Fatalf("the sections of %q in %v: %v", got, o.Letters, places)
	}
}

// R1, R5: long strings and large alphabets; results are new memory, and arguments stay as they are.
func TestMemory(t *testing.T) {
	large := of()
	for i := range api.MaxUnits {
		var variants []string
		for j := range 200 {
			variants = append(variants, strings.Repeat("a", i%29)+string(rune(0x4e00+200*i+j)))
		}
		large.Letters = append(large.Letters, variants)
	}
	large.Letters[0][0] = "a"
	if err := ortho.Check(api.Inventory{}, large); err != api.OK {
		t.Fatal(err)
	}
	long := strings.Repeat("a", 1<<20)
	if p, _, ok := collate.Letters(large, long); len(p) != 1<<20 || !ok || collate.Compare(large, long, long+"a") != -1 || collate.Section(large, long) != 0 {
		t.Error("a long string:", len(p), ok)
	}
	o, l := latin(), []string{"b", "a"}
	clear(collate.Sort(o, l))
	p, q, _ := collate.Letters(o, "ab")
	clear(p)
	clear(q)
	if !slices.Equal(l, []string{"b", "a"}) || collate.Head(o, 0) != "a" || !slices.Equal(collate.Sort(o, l), []string{"a", "b"}) {
		t.Error(o, l)
	}
}

// The functions end for orthographies that are not right, too.
func TestOrthographiesThatAreNotRight(t *testing.T) {
	for _, o := range []api.Ortho{of(nil, []string{""}, nil), of([]string{"", "a", "a"}, []string{"a"})} {
		for _, s := range []string{"", "a", "bab"} {
			collate.Letters(o, s)
			collate.Compare(o, s, "a")
			collate.Section(o, s)
			collate.Sort(o, []string{s, "a", s})
		}
		for i := -1; i < 4; i++ {
			collate.Head(o, i)
		}
	}
}
