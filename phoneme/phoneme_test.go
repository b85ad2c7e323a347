package phoneme_test

import (
	"math"
	"math/rand"
	"slices"
	"strings"
	"testing"

	"langdoc/api"
	"langdoc/phoneme"
)

// of returns the inventory of the segments a, b, .. with these features.
func of(features ...int) api.Inventory {
	var inv api.Inventory
	for i, feat := range features {
		inv.Segs = append(inv.Segs, api.Phoneme{Name: string(rune('a' + i)), Feat: feat})
	}
	return inv
}

// many returns that many segments with different names.
func many(count int) []api.Phoneme {
	var l []api.Phoneme
	for i := range count {
		l = append(l, api.Phoneme{Name: string(rune(0x100 + i)), Feat: i})
	}
	return l
}

// P16.1
func TestCheck(t *testing.T) {
	long := strings.Repeat("ŋ", api.MaxName/2)
	for i, c := range []struct {
		segs []api.Phoneme
		err  api.Errno
	}{
		{nil, api.OK}, {many(api.MaxSegs), api.OK}, {many(api.MaxSegs + 1), api.ErrFull}, {make([]api.Phoneme, api.MaxSegs+1), api.ErrFull}, {make([]api.Phoneme, api.MaxSegs), api.ErrName},
		{[]api.Phoneme{{Name: "p"}, {Name: "P"}, {Name: " "}, {Name: "tʃ"}, {Name: "1"}, {Name: long}}, api.OK},
		{[]api.Phoneme{{Name: ""}}, api.ErrName}, {[]api.Phoneme{{Name: "a\n"}}, api.ErrName}, {[]api.Phoneme{{Name: "\x7f"}}, api.ErrName}, {[]api.Phoneme{{Name: "\xff"}}, api.ErrName}, {[]api.Phoneme{{Name: long + "a"}}, api.ErrName},
		{[]api.Phoneme{{Name: "a"}, {Name: "a", Feat: 1}}, api.ErrTwice}, {[]api.Phoneme{{Name: "a"}, {Name: "b"}, {Name: "b"}}, api.ErrTwice}, {[]api.Phoneme{{Name: "a"}, {Name: "b"}, {Name: "a"}}, api.ErrTwice}, {[]api.Phoneme{{Name: "e\u0301"}, {Name: "\u00e9"}}, api.OK},
		{[]api.Phoneme{{Name: "a", Feat: 1<<api.MaxBits - 1}}, api.OK}, {[]api.Phoneme{{Name: "a", Feat: 1 << api.MaxBits}}, api.ErrRange}, {[]api.Phoneme{{Name: "a", Feat: -1}}, api.ErrRange}, {[]api.Phoneme{{Name: "a", Feat: math.MaxInt}}, api.ErrRange}, {[]api.Phoneme{{Name: "a", Feat: math.MinInt}}, api.ErrRange},
		{[]api.Phoneme{{Name: "a", Feat: 5}, {Name: "b", Feat: 5}}, api.OK},
		// Of several errors, the first one of the first segment that has one.
		{[]api.Phoneme{{Name: "", Feat: -1}}, api.ErrName}, {[]api.Phoneme{{Name: "a"}, {Name: "a", Feat: -1}}, api.ErrTwice}, {[]api.Phoneme{{Name: "a", Feat: -1}, {Name: "a"}}, api.ErrRange}, {[]api.Phoneme{{Name: "a", Feat: -1}, {Name: ""}}, api.ErrRange}, {[]api.Phoneme{{Name: "a"}, {Name: "a"}, {Name: ""}}, api.ErrTwice},
	} {
		if err := phoneme.Check(api.Inventory{Segs: c.segs}); err != c.err {
			t.Errorf("%d: Check = %d, want %d", i, err, c.err)
		}
	}
}

// P16.2
func TestInAndMembers(t *testing.T) {
	inv := of(0, 1, 2, 3, 5, 1<<15)
	for i, c := range []struct {
		c    api.Class
		want []int
	}{
		{api.Class{}, []int{1, 2, 3, 4, 5, 6}}, {api.Class{Mask: 0, Value: 1}, nil}, {api.Class{Mask: 1, Value: 1}, []int{2, 4, 5}}, {api.Class{Mask: 1}, []int{1, 3, 6}}, {api.Class{Mask: 3, Value: 1}, []int{2, 5}}, {api.Class{Mask: 1, Value: 3}, nil}, {api.Class{Mask: 2, Value: 1}, nil},
		// The Mask and the Value may be any numbers.
		{api.Class{Mask: -1, Value: 3}, []int{4}}, {api.Class{Mask: -1, Value: -1}, nil}, {api.Class{Mask: math.MinInt}, []int{1, 2, 3, 4, 5, 6}}, {api.Class{Mask: math.MinInt, Value: math.MinInt}, nil}, {api.Class{Mask: 1<<40 | 4, Value: 4}, []int{5}}, {api.Class{Mask: 1 << 40, Value: 1 << 40}, nil}, {api.Class{Mask: math.MaxInt, Value: 1 << 15}, []int{6}}, {api.Class{Mask: -2}, []int{1, 2}},
	} {
		if l := phoneme.Members(inv, c.c); !slices.Equal(l, c.want) {
			t.Errorf("%d: Members = %v", i, l)
		}
		for _, seg := range []int{-1, 0, 1, 2, 3, 4, 5, 6, 7, math.MinInt, math.MaxInt} {
			if in := phoneme.In(inv, seg, c.c); in != slices.Contains(c.want, seg) {
				t.Errorf("%d: In of %d is %t", i, seg, in)
			}
		}
	}
	if len(phoneme.Members(of(), api.Class{})) != 0 || phoneme.In(of(), 1, api.Class{}) || phoneme.In(of(), 0, api.Class{}) {
		t.Error("no segments")
	}
}

// P16.3
func TestNatural(t *testing.T) {
	const all = 1<<api.MaxBits - 1
	inv := of(0, 2, 3, 6, 6)
	for i, c := range []struct {
		segs []int
		c    api.Class
		ok   bool
	}{
		{nil, api.Class{}, false}, {[]int{}, api.Class{}, false}, {[]int{0}, api.Class{}, false}, {[]int{6}, api.Class{}, false}, {[]int{1, 2, 6}, api.Class{}, false}, {[]int{-1, 1}, api.Class{}, false}, {[]int{math.MinInt}, api.Class{}, false}, {[]int{1, math.MaxInt}, api.Class{}, false},
		{[]int{1}, api.Class{Mask: all}, true}, {[]int{2}, api.Class{Mask: all, Value: 2}, true}, {[]int{3}, api.Class{Mask: all, Value: 3}, true},
		// 4 and 5 have the same features, and are no class one by one.
		{[]int{4}, api.Class{Mask: all, Value: 6}, false}, {[]int{5}, api.Class{Mask: all, Value: 6}, false}, {[]int{5, 4}, api.Class{Mask: all, Value: 6}, true},
		{[]int{2, 3}, api.Class{Mask: all - 1, Value: 2}, true}, {[]int{3, 2, 3, 2}, api.Class{Mask: all - 1, Value: 2}, true}, {[]int{1, 3}, api.Class{Mask: all - 3}, false}, {[]int{1, 2, 3}, api.Class{Mask: all - 3}, true}, {[]int{2, 3, 4}, api.Class{Mask: all - 5, Value: 2}, false}, {[]int{5, 4, 3, 2, 1}, api.Class{Mask: all - 7}, true}, {[]int{1, 3, 4}, api.Class{Mask: all - 7}, false},
	} {
		if d, ok := phoneme.Natural(inv, c.segs); d != c.c || ok != c.ok {
			t.Errorf("%d: Natural = %v, %t", i, d, ok)
		}
	}
	if c, ok := phoneme.Natural(of(0, all), []int{1, 2}); c != (api.Class{}) || !ok {
		t.Errorf("all bits differ: %v, %t", c, ok)
	}
	if c, ok := phoneme.Natural(of(all), []int{1}); c != (api.Class{Mask: all, Value: all}) || !ok {
		t.Errorf("all bits: %v, %t", c, ok)
	}
}

// P16.3, P16.6: the least class, of all sets of segments of small inventories, from the definition.
func TestNaturalOfAll(t *testing.T) {
	random := rand.New(rand.NewSource(16))
	for range 300 {
		var features []int
		for range 1 + random.Intn(6) {
			features = append(features, random.Intn(8)|random.Intn(2)<<15)
		}
		inv := of(features...)
		for set := 1; set < 1<<len(features); set++ {
			var segs []int
			for i := range features {
				if set>>i&1 == 1 {
					segs = append(segs, i+1)
				}
			}
			checkNatural(t, inv, segs)
		}
	}
}

// checkNatural compares Natural of segs, which increase, with the definition, bit by bit.
func checkNatural(t *testing.T, inv api.Inventory, segs []int) {
	var want api.Class
	for bit := range api.MaxBits {
		count := 0
		for _, seg := range segs {
			count += inv.Segs[seg-1].Feat >> bit & 1
		}
		if count == 0 || count == len(segs) {
			want.Mask |= 1 << bit
			want.Value |= count / len(segs) << bit
		}
	}
	var members []int
	for i, p := range inv.Segs {
		if p.Feat&want.Mask == want.Value {
			members = append(members, i+1)
		}
	}
	c, ok := phoneme.Natural(inv, segs)
	if c != want || ok != slices.Equal(members, segs) || !slices.Equal(phoneme.Members(inv, c), members) {
		t.Fatalf("Natural(%v, %v) = %v, %t, want %v", inv, segs, c, ok, want)
	}
	for mask := range 16 {
		for value := range 16 {
			other := api.Class{Mask: mask&7 | mask>>3<<15, Value: value&7 | value>>3<<15}
			contains := func(l []int) bool {
				return !slices.ContainsFunc(l, func(seg int) bool { return !phoneme.In(inv, seg, other) })
			}
			if contains(segs) && !contains(members) {
				t.Fatalf("%v has %v, but not all of %v", other, segs, members)
			}
		}
	}
}

// P16.6: the class with the bits of two classes.
func TestClassOfBoth(t *testing.T) {
	inv := of(0, 1, 2, 3, 4, 5, 6, 7)
	var classes []api.Class
	for mask := range 8 {
		for value := range 8 {
			if value&^mask == 0 {
				classes = append(classes, api.Class{Mask: mask, Value: value})
			}
		}
	}
	for _, a := range classes {
		for _, b := range classes {
			if shared := a.Mask & b.Mask; a.Value&shared != b.Value&shared {
				continue
			}
			both := api.Class{Mask: a.Mask | b.Mask, Value: a.Value | b.Value}
			for seg := range 10 {
				if phoneme.In(inv, seg, both) != (phoneme.In(inv, seg, a) && phoneme.In(inv, seg, b)) {
					t.Fatalf("%d in %v, %v and %v", seg, a, b, both)
				}
			}
		}
	}
}

// P16.4
func TestFind(t *testing.T) {
	inv := api.Inventory{Segs: []api.Phoneme{{Name: "p"}, {Name: "tʃ"}, {Name: "t"}, {Name: " "}}}
	for name, want := range map[string]int{"p": 1, "tʃ": 2, "t": 3, " ": 4, "": 0, "P": 0, "ʃ": 0, "tʃ ": 0, "\xff": 0} {
		if seg := phoneme.Find(inv, name); seg != want {
			t.Errorf("Find(%q) = %d", name, seg)
		}
	}
	if phoneme.Find(of(), "a") != 0 || phoneme.Find(of(), "") != 0 {
		t.Error("no segments")
	}
}

// P16.5
func TestWord(t *testing.T) {
	inv := of(0, 1, 2)
	for i, c := range []struct {
		w   []int
		err api.Errno
	}{
		{nil, api.ErrShort}, {[]int{}, api.ErrShort}, {[]int{1}, api.OK}, {[]int{3, 1, 2, 2}, api.OK}, {[]int{0}, api.ErrSegment}, {[]int{4}, api.ErrSegment}, {[]int{1, 2, -1}, api.ErrSegment}, {[]int{4, 1}, api.ErrSegment}, {[]int{math.MaxInt}, api.ErrSegment}, {[]int{math.MinInt}, api.ErrSegment},
		{slices.Repeat([]int{3}, api.MaxWord), api.OK}, {slices.Repeat([]int{3}, api.MaxWord+1), api.ErrLong}, {make([]int, api.MaxWord), api.ErrSegment}, {make([]int, api.MaxWord+1), api.ErrLong},
	} {
		if err := phoneme.Word(inv, c.w); err != c.err {
			t.Errorf("%d: Word = %d, want %d", i, err, c.err)
		}
	}
	if phoneme.Word(of(), []int{1}) != api.ErrSegment || phoneme.Word(of(), nil) != api.ErrShort {
		t.Error("no segments")
	}
}

// P16.5, P16.6
func TestText(t *testing.T) {
	inv := api.Inventory{Segs: []api.Phoneme{{Name: "p"}, {Name: "tʃ"}, {Name: " "}}}
	for i, c := range []struct {
		w    []int
		want string
	}{
		{nil, ""}, {[]int{1}, "p"}, {[]int{2, 1, 2, 3, 1}, "tʃptʃ p"}, {[]int{0}, ""}, {[]int{4}, ""}, {[]int{0, 1, -1, 2, 4, math.MaxInt, math.MinInt, 1}, "ptʃp"}, {slices.Repeat([]int{1}, 100), strings.Repeat("p", 100)},
	} {
		if s := phoneme.Text(inv, c.w); s != c.want {
			t.Errorf("%d: Text = %q", i, s)
		}
		for at := range c.w {
			if a, b := phoneme.Text(inv, c.w[:at]), phoneme.Text(inv, c.w[at:]); a+b != c.want {
				t.Errorf("%d: the texts of the parts at %d are %q and %q", i, at, a, b)
			}
		}
	}
	if s := phoneme.Text(of(), []int{1, 2}); s != "" {
		t.Errorf("no segments: %q", s)
	}
}
