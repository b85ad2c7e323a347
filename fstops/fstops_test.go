package fstops_test

import (
	"math"
	"math/rand"
	"slices"
	"strings"
	"testing"

	"langdoc/api"
	"langdoc/fst"
	"langdoc/fstops"
)

func arc(from, in, out, to int) api.Arc { return api.Arc{From: from, In: in, Out: out, To: to} }

// right returns a result, which must be without an error and a transducer that fst.Check accepts.
func right(t *testing.T, f api.Fst, err api.Errno) api.Fst {
	t.Helper()
	if check := fst.Check(f); err != api.OK || check != api.OK {
		t.Fatalf("%v: error %d, Check %d", f, err, check)
	}
	return f
}

// lists returns the lists of at most length numbers from 1 to symbols.
func lists(length, symbols int) [][]int {
	l := [][]int{nil}
	from := 0
	for range length {
		to := len(l)
		for _, w := range l[from:to] {
			for n := 1; n <= symbols; n++ {
				l = append(l, append(slices.Clone(w), n))
			}
		}
		from = to
	}
	return l
}

// pairs returns which pairs of ins and outs a transducer accepts.
func pairs(f api.Fst, ins, outs [][]int) [][]bool {
	var rows [][]bool
	for _, in := range ins {
		var row []bool
		for _, out := range outs {
			row = append(row, fst.Accepts(f, in, out))
		}
		rows = append(rows, row)
	}
	return rows
}

// checkSame checks that two transducers accept the same of the pairs of some lists.
func checkSame(t *testing.T, what string, f, g api.Fst, l [][]int) {
	t.Helper()
	for _, in := range l {
		for _, out := range l {
			if fst.Accepts(f, in, out) != fst.Accepts(g, in, out) {
				t.Fatalf("%s: %v and %v differ for %v and %v", what, f, g, in, out)
			}
		}
	}
}

// some returns a small transducer with the symbols 1 and 2.
func some(random *rand.Rand) api.Fst {
	f := api.Fst{States: 1 + random.Intn(3)}
	for range random.Intn(6) {
		f.Arcs = append(f.Arcs, arc(random.Intn(f.States), random.Intn(3), random.Intn(3), random.Intn(f.States)))
	}
	for state := range f.States {
		if random.Intn(2) == 0 {
			f.Final = append(f.Final, state)
		}
	}
	return f
}

// P21.1
func TestPair(t *testing.T) {
	l := lists(3, 2)
	for _, in := range l {
		for _, out := range l {
			f, err := fstops.Pair(in, out)
			right(t, f, err)
			for _, x := range l {
				for _, y := range l {
					if fst.Accepts(f, x, y) != (slices.Equal(x, in) && slices.Equal(y, out)) {
						t.Fatalf("Pair of %v and %v, for %v and %v", in, out, x, y)
					}
				}
			}
		}
	}
	long := slices.Repeat([]int{api.MaxNum}, api.MaxWord)
	f, err := fstops.Pair(long, long)
	if right(t, f, err); !fst.Accepts(f, long, long) || fst.Accepts(f, long[1:], long) || fst.Accepts(f, long, long[1:]) {
		t.Error("Pair of long lists")
	}
	longer := append(long, 1)
	for i, c := range []struct {
		in, out []int
		err     api.Errno
	}{
		{longer, nil, api.ErrLong}, {nil, longer, api.ErrLong}, {[]int{0}, longer, api.ErrLong}, {make([]int, 99), []int{0}, api.ErrLong},
		{[]int{0}, nil, api.ErrArg}, {nil, []int{0}, api.ErrArg}, {[]int{1, -1}, []int{1}, api.ErrArg}, {[]int{1}, []int{1, 2, 0}, api.ErrArg}, {[]int{api.MaxNum + 1}, nil, api.ErrArg}, {nil, []int{math.MaxInt}, api.ErrArg}, {nil, []int{math.MinInt}, api.ErrArg}, {make([]int, api.MaxWord), nil, api.ErrArg},
	} {
		if f, err := fstops.Pair(c.in, c.out); err != c.err || !fst.Same(f, api.Fst{}) {
			t.Errorf("%d: Pair = %v, %d, want %d", i, f, err, c.err)
		}
	}
}

// P21.1
func TestIdentity(t *testing.T) {
	l := lists(3, 3)
	for _, symbols := range [][]int{nil, {1}, {2, 2}, {1, 3}, {3, 1, 3, 2}} {
		f, err := fstops.Identity(symbols)
		right(t, f, err)
		for _, x := range l {
			known := !slices.ContainsFunc(x, func(n int) bool { return !slices.Contains(symbols, n) })
			for _, y := range l {
				if fst.Accepts(f, x, y) != (known && slices.Equal(x, y)) {
					t.Fatalf("Identity of %v, for %v and %v", symbols, x, y)
				}
			}
		}
	}
	var most []int
	for i := range api.MaxSegs {
		most = append(most, api.MaxNum-i)
	}
	f, err := fstops.Identity(most)
	if long := slices.Concat(most, most); !fst.Accepts(right(t, f, err), long, long) {
		t.Error("Identity of many symbols")
	}
	for i, c := range []struct {
		symbols []int
		err     api.Errno
	}{
		{append(most, 1), api.ErrLong}, {make([]int, api.MaxSegs+1), api.ErrLong}, {slices.Repeat([]int{1}, api.MaxSegs+1), api.ErrLong}, {make([]int, api.MaxSegs), api.ErrArg}, {[]int{0}, api.ErrArg}, {[]int{1, -2}, api.ErrArg}, {[]int{1, api.MaxNum + 1}, api.ErrArg}, {[]int{math.MinInt}, api.ErrArg},
	} {
		if f, err := fstops.Identity(c.symbols); err != c.err || !fst.Same(f, api.Fst{}) {
			t.Errorf("%d: Identity = %v, %d, want %d", i, f, err, c.err)
		}
	}
}

// divided reports whether in and out can be divided into a pair that left accepts, followed by one that right accepts.
func divided(left, right func(in, out []int) bool, in, out []int) bool {
	for i := range len(in) + 1 {
		for k := range len(out) + 1 {
			if left(in[:i], out[:k]) && right(in[i:], out[k:]) {
				return true
			}
		}
	}
	return false
}

// repeated reports whether in and out consist of pairs that one accepts.
func repeated(one func(in, out []int) bool, in, out []int) bool {
	if len(in) == 0 && len(out) == 0 {
		return true
	}
	return divided(func(x, y []int) bool { return len(x)+len(y) > 0 && one(x, y) }, func(x, y []int) bool { return repeated(one, x, y) }, in, out)
}

// accepts returns fst.Accepts of a transducer for short lists, each of which is looked for once.
func accepts(f api.Fst) func(in, out []int) bool {
	known := map[string]bool{}
	return func(in, out []int) bool {
		key := text(in) + "," + text(out)
		ok, found := known[key]
		if !found {
			ok = fst.Accepts(f, in, out)
			known[key] = ok
		}
		return ok
	}
}

func text(l []int) string {
	var b strings.Builder
	for _, n := range l {
		b.WriteByte(byte('0' + n))
	}
	return b.String()
}

// P21.2, P21.3, from the definitions.
func TestCombinations(t *testing.T) {
	random := rand.New(rand.NewSource(21))
	l := lists(3, 2)
	for range 150 {
		f, g := some(random), some(random)
		inF, inG := accepts(f), accepts(g)
		union, err := fstops.Union(f, g)
		right(t, union, err)
		concat, err := fstops.Concat(f, g)
		right(t, concat, err)
		star, err := fstops.Star(f)
		right(t, star, err)
		inverse := right(t, fstops.Invert(f), api.OK)
		for _, x := range l {
			for _, y := range l {
				if fst.Accepts(union, x, y) != (inF(x, y) || inG(x, y)) {
					t.Fatalf("Union of %v and %v, for %v and %v", f, g, x, y)
				}
				if fst.Accepts(concat, x, y) != divided(inF, inG, x, y) {
					t.Fatalf("Concat of %v and %v, for %v and %v", f, g, x, y)
				}
				if fst.Accepts(star, x, y) != repeated(inF, x, y) {
					t.Fatalf("Star of %v, for %v and %v", f, x, y)
				}
				if fst.Accepts(inverse, x, y) != inF(y, x) {
					t.Fatalf("Invert of %v, for %v and %v", f, x, y)
				}
			}
		}
	}
}

// P21.2: a start to which arcs lead, and which is not final.
func TestStarOfAReturnToTheStart(t *testing.T) {
	f := api.Fst{States: 2, Arcs: []api.Arc{arc(0, 1, 1, 0), arc(0, 2, 2, 1)}, Final: []int{1}}
	star, err := fstops.Star(f)
	right(t, star, err)
	for _, c := range []struct {
		w  []int
		ok bool
	}{{nil, true}, {[]int{2}, true}, {[]int{1}, false}, {[]int{2, 1}, false}, {[]int{1, 2, 2, 1, 1, 2}, true}} {
		if fst.Accepts(star, c.w, c.w) != c.ok {
			t.Error(c.w)
		}
	}
	pair, err := fstops.Pair([]int{1}, nil)
	star, _ = fstops.Star(right(t, pair, err))
	if ones := slices.Repeat([]int{1}, 50); !fst.Accepts(star, ones, nil) || !fst.Accepts(star, nil, nil) || fst.Accepts(star, ones, ones[:1]) {
		t.Error("Star of 1 and nothing")
	}
}

// P21.2: what the combinations refuse.
func TestLimits(t *testing.T) {
	of := func(states, arcs int) api.Fst {
		return api.Fst{States: states, Arcs: make([]api.Arc, arcs), Final: []int{0}}
	}
	for i, c := range []struct {
		f, g api.Fst
		err  api.Errno
	}{
		{of(600, 0), of(400, 0), api.OK}, {of(600, 0), of(401, 0), api.ErrFull}, {of(1, 0), of(1000, 0), api.ErrFull}, {of(999, 0), of(1, 0), api.OK}, {of(api.MaxStates, 0), of(1, 0), api.ErrFull},
		{of(1, 4000), of(1, 6000), api.OK}, {of(1, 4000), of(1, 6001), api.ErrFull}, {of(1, 0), of(1, 10000), api.OK}, {of(1, 10001), of(1, 0), api.ErrFull}, {of(1, api.MaxArcs), of(1, api.MaxArcs), api.ErrFull}, {of(500, 5000), of(500, 5000), api.OK},
	} {
		union, err := fstops.Union(c.f, c.g)
		concat, other := fstops.Concat(c.f, c.g)
		if err != c.err || other != c.err {
			t.Errorf("%d: Union %d, Concat %d, want %d", i, err, other, c.err)
		}
		checkLimited(t, union, err)
		checkLimited(t, concat, other)
	}
	for i, c := range []struct {
		f   api.Fst
		err api.Errno
	}{{of(1000, 10000), api.OK}, {of(1001, 0), api.ErrFull}, {of(1, 10001), api.ErrFull}, {of(api.MaxStates, api.MaxArcs), api.ErrFull}} {
		star, err := fstops.Star(c.f)
		if err != c.err {
			t.Errorf("%d: Star %d, want %d", i, err, c.err)
		}
		checkLimited(t, star, err)
	}
	all := of(1000, 10000)
	all.Final = nil
	for state := range all.States {
		all.Final = append(all.Final, state)
	}
	star, err := fstops.Star(all)
	checkLimited(t, star, err)
	large := fstops.Invert(of(api.MaxStates, api.MaxArcs))
	if fst.Check(large) != api.OK || !fst.Accepts(large, nil, nil) {
		t.Error("Invert of a large transducer")
	}
}

// checkLimited checks a result that may be refused.
func checkLimited(t *testing.T, f api.Fst, err api.Errno) {
	t.Helper()
	if err != api.OK && !fst.Same(f, api.Fst{}) || err == api.OK && (fst.Check(f) != api.OK || !fst.Accepts(f, nil, nil)) {
		t.Errorf("a transducer of %d states, and error %d", f.States, err)
	}
}

// P21.4: what Compose refuses.
func TestLimitsOfCompose(t *testing.T) {
	// All arcs write or read the symbol 1.
	of := func(states, arcs int) api.Fst {
		return api.Fst{States: states, Arcs: slices.Repeat([]api.Arc{arc(0, 1, 1, 0)}, arcs), Final: []int{0}}
	}
	for i, c := range []struct {
		f, g api.Fst
		err  api.Errno
	}{
		{of(500, 0), of(2, 0), api.OK}, {of(77, 0), of(13, 0), api.ErrFull}, {of(501, 0), of(2, 0), api.ErrFull}, {of(1, 0), of(1000, 0), api.OK}, {of(1001, 0), of(1, 0), api.ErrFull}, {of(api.MaxStates, 0), of(api.MaxStates, 0), api.ErrFull},
		{of(1, 100000), of(1, 0), api.OK}, {of(1, 100001), of(1, 0), api.ErrFull}, {of(1, 0), of(1, 100000), api.OK}, {of(1, 0), of(1, 100001), api.ErrFull}, {of(1, 50000), of(2, 0), api.OK}, {of(1, 50001), of(2, 0), api.ErrFull}, {of(2, 0), of(1, 50001), api.ErrFull},
		// The sums are n m + n + m, where one arc more is too many.
		{of(1, 10), of(1, 9090), api.OK}, {of(1, 10), of(1, 9091), api.ErrFull}, {of(1, 1), of(1, 49999), api.OK}, {of(1, 1), of(1, 50000), api.ErrFull}, {of(1, 9090), of(1, 10), api.OK}, {of(1, 9091), of(1, 10), api.ErrFull}, {of(1, api.MaxArcs), of(1, api.MaxArcs), api.ErrFull},
	} {
		f, err := fstops.Compose(c.f, c.g)
		if err != c.err {
			t.Errorf("%d: Compose %d, want %d", i, err, c.err)
		}
		checkLimited(t, f, err)
	}
	// Everything is shared, and all states stay.
	copies, err := fstops.Compose(of(1, 10), of(1, 9090))
	if right(t, copies, err); !fst.Accepts(copies, []int{1, 1}, []int{1, 1}) || fst.Accepts(copies, []int{1}, nil) {
		t.Error("Compose of many arcs")
	}
}

// composed checks Compose of f and g for the pairs of some lists, if between is all that f can write for them.
func composed(t *testing.T, f, g api.Fst, l, between [][]int, all bool) {
	t.Helper()
	h, err := fstops.Compose(f, g)
	right(t, h, err)
	first, second := pairs(f, l, between), pairs(g, between, l)
	for i, x := range l {
		for k, z := range l {
			want := false
			for j := range between {
				want = want || first[i][j] && second[j][k]
			}
			if got := fst.Accepts(h, x, z); got != want && (want || all) {
				t.Fatalf("Compose of %v and %v, for %v and %v: %t", f, g, x, z, got)
			}
		}
	}
}

// P21.4, from the definition.
func TestCompose(t *testing.T) {
	random := rand.New(rand.NewSource(214))
	l, between := lists(2, 2), lists(5, 2)
	for range 150 {
		// Arcs that read nothing lead to greater states only: with two states, at most 5 symbols are written for 2.
		f := some(random)
		f.States = min(f.States, 2)
		f.Final = slices.DeleteFunc(f.Final, func(state int) bool { return state >= f.States })
		f.Arcs = slices.DeleteFunc(f.Arcs, func(a api.Arc) bool { return max(a.From, a.To) >= f.States || a.In == 0 && a.To <= a.From })
		composed(t, f, some(random), l, between, true)
		// Of others, what is between may be longer.
		composed(t, some(random), some(random), l, between[:31], false)
	}
	pair := func(in, out []int) api.Fst {
		f, err := fstops.Pair(in, out)
		return right(t, f, err)
	}
	composed(t, pair([]int{1}, []int{2}), pair([]int{2}, []int{1, 1}), l, between, true)
	composed(t, pair([]int{1, 2}, nil), pair(nil, []int{2, 1}), l, between, true)
	composed(t, pair(nil, []int{1, 2, 1}), pair([]int{1, 2, 1}, []int{2}), l, between, true)
	composed(t, pair([]int{1}, []int{2}), pair([]int{1}, []int{2}), l, between, true)
	// The list between has 40 symbols, none of which is read or written at last.
	none := fst.Trim(api.Fst{States: 2})
	writes := api.Fst{States: 41, Final: []int{40}}
	reads := api.Fst{States: 1, Arcs: []api.Arc{arc(0, 7, 0, 0)}, Final: []int{0}}
	for state := range 40 {
		writes.Arcs = append(writes.Arcs, arc(state, 0, 7, state+1))
	}
	long, err := fstops.Compose(writes, reads)
	if right(t, long, err); !fst.Accepts(long, nil, nil) || fst.Accepts(long, []int{7}, nil) || fst.Accepts(long, nil, []int{7}) {
		t.Error("Compose over a long list")
	}
	for _, c := range [][2]api.Fst{{none, reads}, {reads, none}, {none, none}} {
		f, err := fstops.Compose(c[0], c[1])
		if right(t, f, err); !fst.Empty(f) {
			t.Error("Compose with what accepts nothing", f)
		}
	}
}

// P21.5
func TestLaws(t *testing.T) {
	random := rand.New(rand.NewSource(215))
	l := lists(2, 3)
	identity, err := fstops.Identity([]int{1, 2, 3})
	right(t, identity, err)
	nothing, err := fstops.Pair(nil, nil)
	right(t, nothing, err)
	compose := func(f, g api.Fst) api.Fst {
		h, err := fstops.Compose(f, g)
		return right(t, h, err)
	}
	for range 120 {
		f, g, h := some(random), some(random), some(random)
		checkSame(t, "identity before", compose(identity, f), f, l)
		checkSame(t, "identity behind", compose(f, identity), f, l)
		checkSame(t, "associative", compose(compose(f, g), h), compose(f, compose(g, h)), l)
		checkSame(t, "inverse", fstops.Invert(compose(f, g)), compose(fstops.Invert(g), fstops.Invert(f)), l)
		checkSame(t, "twice inverse", fstops.Invert(fstops.Invert(f)), f, l)
		star, err := fstops.Star(f)
		more, other := fstops.Concat(f, right(t, star, err))
		all, last := fstops.Union(nothing, right(t, more, other))
		checkSame(t, "star", star, right(t, all, last), l)
	}
}

// R5: arguments stay as they are, and share no memory with results.
func TestMemory(t *testing.T) {
	fresh := func() api.Fst {
		return api.Fst{States: 2, Arcs: append(make([]api.Arc, 0, 9), arc(0, 1, 2, 1), arc(1, 2, 1, 1)), Final: append(make([]int, 0, 9), 1)}
	}
	f, g := fresh(), fresh()
	for _, do := range []func() (api.Fst, api.Errno){
		func() (api.Fst, api.Errno) { return fstops.Union(f, g) },
		func() (api.Fst, api.Errno) { return fstops.Concat(f, g) },
		func() (api.Fst, api.Errno) { return fstops.Star(f) },
		func() (api.Fst, api.Errno) { return fstops.Invert(f), api.OK },
		func() (api.Fst, api.Errno) { return fstops.Compose(f, g) },
	} {
		h, err := do()
		clear(right(t, h, err).Arcs)
		clear(h.Final)
		if !fst.Same(f, fresh()) || !fst.Same(g, fresh()) || f.Arcs[:3][2] != (api.Arc{}) || f.Final[:2][1] != 0 {
			t.Error("an argument was changed", f, g)
		}
	}
}

// Transducers that fst.Check refuses are treated as if they accepted nothing, and no function panics.
func TestRefusedTransducers(t *testing.T) {
	one, err := fstops.Pair([]int{1}, []int{2})
	right(t, one, err)
	for _, bad := range []api.Fst{{}, {States: -1}, {States: math.MaxInt, Final: []int{math.MaxInt}}, {States: math.MinInt}, {States: 1, Arcs: []api.Arc{arc(0, 0, 0, 5)}, Final: []int{0}}, {States: 1, Arcs: []api.Arc{arc(-7, -1, -1, 5)}}, {States: 2, Final: []int{1, 0}}} {
		union, err := fstops.Union(bad, one)
		checkSame(t, "Union", right(t, union, err), one, lists(2, 2))
		for _, f := range []func(f, g api.Fst) (api.Fst, api.Errno){fstops.Concat, fstops.Compose} {
			x, err := f(bad, one)
			y, other := f(one, bad)
			if !fst.Empty(right(t, x, err)) || !fst.Empty(right(t, y, other)) {
				t.Error(bad, x, y)
			}
		}
		star, err := fstops.Star(bad)
		if right(t, star, err); !fst.Accepts(star, nil, nil) || !fst.Empty(right(t, fstops.Invert(bad), api.OK)) {
			t.Error(bad, star)
		}
	}
}
