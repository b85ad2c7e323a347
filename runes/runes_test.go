package runes_test

import (
	"math"
	"slices"
	"strings"
	"testing"
	"unicode/utf8"

	"langdoc/runes"
)

// P2.1
func TestPointsAndOf(t *testing.T) {
	for s, points := range map[string][]int{
		"":                    nil,
		"a":                   {0x61},
		"\x00\x7f":            {0, 0x7f},
		"a\u0301b":            {0x61, 0x301, 0x62},
		"\u00e9\u014b":        {0xe9, 0x14b},
		"\ufffd":              {0xfffd},
		"\ufeff\ufffe\uffff":  {0xfeff, 0xfffe, 0xffff},
		"\ud7ff\ue000":        {0xd7ff, 0xe000},
		"\U00010000":          {0x10000},
		"\xf4\x8f\xbf\xbf":    {0x10ffff},
		"\xc2\x80\xdf\xbf":    {0x80, 0x7ff},
		"\xe0\xa0\x80":        {0x800},
		"\u1e63\u0323\u0307x": {0x1e63, 0x323, 0x307, 0x78},
	} {
		if got, ok := runes.Points(s); !slices.Equal(got, points) || !ok {
			t.Errorf("Points(%q) = %x, %t", s, got, ok)
		}
		if got, ok := runes.Of(points); got != s || !ok {
			t.Errorf("Of(%x) = %q, %t", points, got, ok)
		}
	}
}

// encoded returns the shortest encoding of a scalar, from the definition of UTF-8.
func encoded(p int) string {
	tail := func(shift int) byte { return byte(0x80 | p>>shift&0x3f) }
	switch {
	case p < 0x80:
		return string([]byte{byte(p)})
	case p < 0x800:
		return string([]byte{byte(0xc0 | p>>6), tail(0)})
	case p < 0x10000:
		return string([]byte{byte(0xe0 | p>>12), tail(6), tail(0)})
	}
	return string([]byte{byte(0xf0 | p>>18), tail(12), tail(6), tail(0)})
}

// P2.1, P2.5: all scalars, and no other numbers.
func TestEveryScalar(t *testing.T) {
	for p := -3; p <= 0x110003; p++ {
		isScalar := p >= 0 && p <= 0x10ffff && !(p >= 0xd800 && p <= 0xdfff)
		s, ok := runes.Of([]int{p})
		if ok != isScalar || !ok && s != "" || ok && s != encoded(p) {
			t.Fatalf("Of(%x) = %q, %t", p, s, ok)
		}
		if !isScalar {
			continue
		}
		if points, ok := runes.Points(s); !ok || len(points) != 1 || points[0] != p {
			t.Fatalf("Points(%q) = %x, %t", s, points, ok)
		}
	}
}

// P2.1: one number that is not a scalar is enough.
func TestOfRefuses(t *testing.T) {
	for _, p := range []int{-1, 0xd800, 0xdbff, 0xdc00, 0xdfff, 0x110000, 1<<32 + 97, 1 << 31, 1<<32 - 1, math.MaxInt, math.MinInt} {
		for _, l := range [][]int{{p}, {p, 97}, {97, p}, {97, p, 98}} {
			if s, ok := runes.Of(l); s != "" || ok {
				t.Errorf("Of(%x) = %q, %t", l, s, ok)
			}
		}
	}
}

var invalid = []string{
	"\xff", "\xfe", "\x80", "\xbf", "a\x80", "\x80a", "\xc0\x80", "\xc1\xbf", "\xc2", "\xc2a", "\xcc", "\xe0\x80\x80", "\xe0\x9f\xbf", "\xe2\x82", "\xe2\x82a", "\xe2a\x82",
	"\xed\xa0\x80", "\xed\xbf\xbf", "\xed\xa0\x80\xed\xb0\x80", "\xf0\x80\x80\x80", "\xf0\x8f\xbf\xbf", "\xf0\x9f\x98", "\xf4\x90\x80\x80", "\xf5\x80\x80\x80", "\xf8\x88\x80\x80\x80",
	"abc\xffdef", "a\u0301\u0323\xff", "\xffa\u0301\u0323", "a\u0301\xcc",
}

// P2.1, P2.3, P2.4: strings that are not valid.
func TestInvalidStrings(t *testing.T) {
	for _, s := range invalid {
		if points, ok := runes.Points(s); ok || len(points) != 0 {
			t.Errorf("Points(%q) = %x, %t", s, points, ok)
		}
		if clusters := runes.Clusters(s); len(clusters) != 0 {
			t.Errorf("Clusters(%q) = %q", s, clusters)
		}
		if order := runes.Order(s); order != s {
			t.Errorf("Order(%q) = %q", s, order)
		}
		for _, other := range append(invalid, "", "a", "\ufffd") {
			if same := runes.Same(s, other); same != (s == other) {
				t.Errorf("Same(%q, %q) = %t", s, other, same)
			}
		}
	}
}

// P2.1: strings of bytes at the borders of their kinds are valid exactly if they are in Unicode's sense.
func TestValidity(t *testing.T) {
	const alphabet = "\x00a\x7f\x80\x8f\x90\x9f\xa0\xbf\xc0\xc1\xc2\xcc\xdf\xe0\xe1\xed\xee\xef\xf0\xf1\xf4\xf5\xff"
	var visit func(s string)
	visit = func(s string) {
		points, ok := runes.Points(s)
		if ok != utf8.ValidString(s) || !ok && len(points) != 0 {
			t.Fatalf("Points(%q) = %x, %t", s, points, ok)
		}
		if back, _ := runes.Of(points); ok && back != s {
			t.Fatalf("Of(%x) = %q, want %q", points, back, s)
		}
		if len(s) == 4 {
			return
		}
		for i := range len(alphabet) {
			visit(s + alphabet[i:i+1])
		}
	}
	visit("")
}

// P2.2
func TestClass(t *testing.T) {
	want := map[int]int{}
	for p := 0x300; p <= 0x36f; p++ {
		want[p] = 230
	}
	for _, r := range [][2]int{{0x316, 0x319}, {0x31c, 0x320}, {0x323, 0x326}, {0x329, 0x333}} {
		for p := r[0]; p <= r[1]; p++ {
			want[p] = 220
		}
	}
	for _, p := range []int{0x321, 0x322, 0x327, 0x328} {
		want[p] = 202
	}
	for p := -0x400; p <= 0x2000; p++ {
		if got := runes.Class(p); got != want[p] {
			t.Errorf("Class(%x) = %d, want %d", p, got, want[p])
		}
	}
	for _, p := range []int{0x1dc0, 0x20d0, 0xfe20, 0xd800, 0x10ffff, 0x110000, 1<<32 + 0x301, 1<<32 + 0x323, math.MinInt, math.MaxInt} {
		if got := runes.Class(p); got != 0 {
			t.Errorf("Class(%x) = %d", p, got)
		}
	}
}

// P2.3
func TestClusters(t *testing.T) {
	for s, want := range map[string][]string{
		"":                                  nil,
		"a":                                 {"a"},
		"ab":                                {"a", "b"},
		"a\u0301b":                          {"a\u0301", "b"},
		"\u0301":                            {"\u0301"},
		"\u0301\u0323":                      {"\u0301\u0323"},
		"\u0301\u0323a":                     {"\u0301\u0323", "a"},
		"\u0301a\u0323":                     {"\u0301", "a\u0323"},
		"n\u0323\u0301\u014b\u0301":         {"n\u0323\u0301", "\u014b\u0301"},
		"\u02ff\u0300\u036f\u0370":          {"\u02ff\u0300\u036f", "\u0370"},
		"\U0001f600\u0301 \u0301\x00\u0301": {"\U0001f600\u0301", " \u0301", "\x00\u0301"},
		"a\u20d0":                           {"a", "\u20d0"},
	} {
		if got := runes.Clusters(s); !slices.Equal(got, want) {
			t.Errorf("Clusters(%q) = %q, want %q", s, got, want)
		}
	}
}

// P2.4
func TestOrderAndSame(t *testing.T) {
	for s, want := range map[string]string{
		"":                                      "",
		"ba":                                    "ba",
		"a\u0301\u0323":                         "a\u0323\u0301",
		"a\u0323\u0301":                         "a\u0323\u0301",
		"a\u0301\u0323\u0327":                   "a\u0327\u0323\u0301",
		"a\u0301\u0300":                         "a\u0301\u0300",
		"a\u0300\u0301":                         "a\u0300\u0301",
		"a\u0301\u0323\u0300\u0324":             "a\u0323\u0324\u0301\u0300",
		"\u0301\u0327":                          "\u0327\u0301",
		"\u0301a\u0327":                         "\u0301a\u0327",
		"a\u0301b\u0323":                        "a\u0301b\u0323",
		"a\u0301\u0323b\u0301\u0327":            "a\u0323\u0301b\u0327\u0301",
		"\U0001f600\u0301\u0321\u014b":          "\U0001f600\u0321\u0301\u014b",
		"a\u0301\u20d0\u0323":                   "a\u0301\u20d0\u0323",
		"\u00e1\u0323":                          "\u00e1\u0323",
		"a\u0334\u0333\u0328\u0322\u0319\u0300": "a\u0328\u0322\u0333\u0319\u0334\u0300",
	} {
		if got := runes.Order(s); got != want {
			t.Errorf("Order(%q) = %q, want %q", s, got, want)
		}
		if !runes.Same(s, want) || !runes.Same(want, s) || runes.Same(s, want+"a") {
			t.Errorf("Same(%q, %q)", s, want)
		}
	}
	for _, c := range [][2]string{{"a\u0301\u0300", "a\u0300\u0301"}, {"a", "b"}, {"a", ""}, {"\u00e1", "a\u0301"}, {"a\u0301b", "ab\u0301"}} {
		if runes.Same(c[0], c[1]) || runes.Same(c[1], c[0]) {
			t.Errorf("Same(%q, %q)", c[0], c[1])
		}
	}
}

// P2.4: more marks than a field or a short list would hold.
func TestOrderOfManyMarks(t *testing.T) {
	s := "x" + strings.Repeat("\u0301\u0323\u0300\u0327\u0324", 500)
	want := "x" + strings.Repeat("\u0327", 500) + strings.Repeat("\u0323\u0324", 500) + strings.Repeat("\u0301\u0300", 500)
	if runes.Order(s) != want {
		t.Error("Order of 2500 marks")
	}
	if l := runes.Clusters(s); len(l) != 1 || l[0] != s {
		t.Error("Clusters of 2500 marks")
	}
}

// class is the class of the marks that smallStrings uses.
func class(r rune) int {
	return map[rune]int{0x301: 230, 0x300: 230, 0x323: 220, 0x331: 220, 0x328: 202}[r]
}

// smallStrings visits all strings of at most five of two bases and five marks.
func smallStrings(visit func(s []rune)) {
	var extend func(s []rune)
	extend = func(s []rune) {
		visit(s)
		if len(s) == 5 {
			return
		}
		for _, r := range []rune{'a', 0x14b, 0x301, 0x300, 0x323, 0x331, 0x328} {
			extend(append(slices.Clone(s), r))
		}
	}
	extend(nil)
}

// ordered exchanges neighboring marks in the wrong order until there are none.
func ordered(s []rune) string {
	s = slices.Clone(s)
	for i := 1; i < len(s); i++ {
		for j := i; j > 0 && class(s[j]) > 0 && class(s[j-1]) > class(s[j]); j-- {
			s[j-1], s[j] = s[j], s[j-1]
		}
	}
	return string(s)
}

// divided returns the clusters of a string.
func divided(s []rune) []string {
	var l []string
	for i, r := range s {
		if i == 0 || class(r) == 0 {
			l = append(l, "")
		}
		l[len(l)-1] += string(r)
	}
	return l
}

// P2.3, P2.4, P2.5, from their definitions.
func TestSmallStrings(t *testing.T) {
	smallStrings(func(l []rune) {
		s := string(l)
		order, clusters := runes.Order(s), runes.Clusters(s)
		if order != ordered(l) {
			t.Fatalf("Order(%q) = %q, want %q", s, order, ordered(l))
		}
		if !slices.Equal(clusters, divided(l)) || strings.Join(clusters, "") != s {
			t.Fatalf("Clusters(%q) = %q", s, clusters)
		}
		if runes.Order(order) != order || len(order) != len(s) || len(runes.Clusters(order)) != len(clusters) || !runes.Same(s, order) {
			t.Fatalf("Order(%q) = %q", s, order)
		}
	})
}

// P2.5: strings one after the other, of which the second begins with a scalar that is not a mark.
func TestConcatenation(t *testing.T) {
	firsts := []string{"", "a", "a\u0301\u0323", "\u0301\u0323", "ba\u0327", "\u014b\u0301\u0327\u0323b\u0301\u0327"}
	seconds := []string{"", "b", "b\u0301\u0323", "\u014b\u0323\u0301a", "\U0001f600\u0301\u0328"}
	for _, a := range firsts {
		for _, b := range seconds {
			if !slices.Equal(runes.Clusters(a+b), append(slices.Clone(runes.Clusters(a)), runes.Clusters(b)...)) {
				t.Errorf("Clusters(%q) = %q", a+b, runes.Clusters(a+b))
			}
			if runes.Order(a+b) != runes.Order(a)+runes.Order(b) {
				t.Errorf("Order(%q) = %q", a+b, runes.Order(a+b))
			}
		}
	}
}

// P2.5: which marks at the end can be exchanged.
func TestExchangedMarks(t *testing.T) {
	for _, start := range []string{"", "a", "a\u0301", "a\u0323\u0328", "b\u0327\u0301\u014b"} {
		for p := 0x300; p <= 0x36f; p++ {
			for q := 0x300; q <= 0x36f; q++ {
				a, b := start+string(rune(p))+string(rune(q)), start+string(rune(q))+string(rune(p))
				if runes.Same(a, b) != (p == q || runes.Class(p) != runes.Class(q)) {
					t.Fatalf("Same(%q, %q) = %t", a, b, runes.Same(a, b))
				}
			}
		}
	}
}

// P2.1: Of does not change its argument.
func TestOfLeavesArgument(t *testing.T) {
	points := []int{0x61, 0x301, 0x323}
	runes.Of(points)
	if !slices.Equal(points, []int{0x61, 0x301, 0x323}) {
		t.Error(points)
	}
}
