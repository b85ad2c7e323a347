package fst_test

import (
	"math"
	"math/rand"
	"slices"
	"testing"

	"langdoc/api"
	"langdoc/fst"
)

func arc(from, in, out, to int) api.Arc { return api.Arc{From: from, In: in, Out: out, To: to} }

// P20.1
func TestCheck(t *testing.T) {
	for i, c := range []struct {
		f   api.Fst
		err api.Errno
	}{
		{api.Fst{States: 1}, api.OK}, {api.Fst{States: api.MaxStates}, api.OK}, {api.Fst{States: 1, Arcs: make([]api.Arc, api.MaxArcs)}, api.OK},
		{api.Fst{States: 3, Arcs: []api.Arc{arc(0, 0, 0, 0), arc(2, api.MaxNum, api.MaxNum, 0), arc(0, 1, 0, 2), arc(0, 1, 0, 2)}, Final: []int{0, 1, 2}}, api.OK},
		{api.Fst{}, api.ErrRange}, {api.Fst{States: -1}, api.ErrRange}, {api.Fst{States: api.MaxStates + 1}, api.ErrRange}, {api.Fst{States: math.MaxInt}, api.ErrRange}, {api.Fst{States: math.MinInt}, api.ErrRange},
		{api.Fst{States: 1, Arcs: make([]api.Arc, api.MaxArcs+1)}, api.ErrFull},
		{api.Fst{States: 2, Arcs: []api.Arc{arc(-1, 0, 0, 0)}}, api.ErrRange}, {api.Fst{States: 2, Arcs: []api.Arc{arc(2, 0, 0, 0)}}, api.ErrRange}, {api.Fst{States: 2, Arcs: []api.Arc{arc(0, 0, 0, -1)}}, api.ErrRange}, {api.Fst{States: 2, Arcs: []api.Arc{arc(0, 0, 0, 2)}}, api.ErrRange}, {api.Fst{States: 2, Arcs: []api.Arc{arc(0, 0, 0, math.MaxInt)}}, api.ErrRange},
		{api.Fst{States: 1, Arcs: []api.Arc{arc(0, -1, 0, 0)}}, api.ErrArg}, {api.Fst{States: 1, Arcs: []api.Arc{arc(0, 0, -1, 0)}}, api.ErrArg}, {api.Fst{States: 1, Arcs: []api.Arc{arc(0, api.MaxNum+1, 0, 0)}}, api.ErrArg}, {api.Fst{States: 1, Arcs: []api.Arc{arc(0, 0, api.MaxNum+1, 0)}}, api.ErrArg}, {api.Fst{States: 1, Arcs: []api.Arc{arc(0, 1, 1, 0), arc(0, math.MinInt, 1, 0)}}, api.ErrArg},
		{api.Fst{States: 3, Final: []int{1, 1}}, api.ErrOrder}, {api.Fst{States: 3, Final: []int{2, 0}}, api.ErrOrder}, {api.Fst{States: 3, Final: []int{0, 2, 1}}, api.ErrOrder},
		{api.Fst{States: 3, Final: []int{-1}}, api.ErrRange}, {api.Fst{States: 3, Final: []int{-1, 0}}, api.ErrRange}, {api.Fst{States: 3, Final: []int{0, 3}}, api.ErrRange}, {api.Fst{States: 3, Final: []int{math.MaxInt}}, api.ErrRange},
		// Of several errors, the first one that is listed, and of the first arc that has one.
		{api.Fst{Arcs: make([]api.Arc, api.MaxArcs+1), Final: []int{1, 1}}, api.ErrRange}, {api.Fst{States: 1, Arcs: append(make([]api.Arc, api.MaxArcs), arc(9, -1, 0, 0))}, api.ErrFull}, {api.Fst{States: 1, Arcs: []api.Arc{arc(0, -1, 0, 1)}}, api.ErrRange}, {api.Fst{States: 1, Arcs: []api.Arc{arc(0, -1, 0, 0), arc(0, 0, 0, 1)}}, api.ErrArg}, {api.Fst{States: 1, Arcs: []api.Arc{arc(0, 0, 0, 1), arc(0, -1, 0, 0)}}, api.ErrRange},
		{api.Fst{States: 1, Arcs: []api.Arc{arc(0, -1, 0, 0)}, Final: []int{0, 0}}, api.ErrArg}, {api.Fst{States: 1, Arcs: []api.Arc{arc(1, 0, 0, 0)}, Final: []int{0, 0}}, api.ErrRange}, {api.Fst{States: 1, Final: []int{5, 0}}, api.ErrOrder}, {api.Fst{States: 1, Final: []int{-1, -1}}, api.ErrOrder}, {api.Fst{States: 1, Final: []int{5, 6, 6}}, api.ErrOrder},
	} {
		if err := fst.Check(c.f); err != c.err {
			t.Errorf("%d: Check = %d, want %d", i, err, c.err)
		}
	}
}

// P20.2
func TestAccepts(t *testing.T) {
	empty := api.Fst{States: 1, Final: []int{0}}
	// Each 1 becomes 2 or nothing; before the end a 3 can be written without reading, any number of times.
	f := api.Fst{States: 2, Arcs: []api.Arc{arc(0, 1, 2, 0), arc(0, 1, 0, 0), arc(0, 0, 0, 1), arc(1, 0, 3, 1)}, Final: []int{1}}
	copies := api.Fst{States: 1, Arcs: []api.Arc{arc(0, 7, 7, 0), arc(0, api.MaxNum, api.MaxNum, 0), arc(0, 0, 0, 0)}, Final: []int{0}}
	for i, c := range []struct {
		f       api.Fst
		in, out []int
		ok      bool
	}{
		{empty, nil, nil, true}, {empty, []int{}, []int{}, true}, {empty, []int{1}, nil, false}, {empty, nil, []int{1}, false}, {empty, []int{0}, nil, false}, {empty, nil, []int{0}, false}, {api.Fst{States: 1}, nil, nil, false}, {api.Fst{States: 2, Final: []int{1}}, nil, nil, false},
		{f, nil, nil, true}, {f, nil, []int{3, 3}, true}, {f, []int{1, 1}, []int{2}, true}, {f, []int{1, 1}, nil, true}, {f, []int{1}, []int{2, 3}, true}, {f, []int{1}, []int{3, 2}, false}, {f, []int{1}, []int{2, 2}, false}, {f, []int{2}, nil, false}, {f, nil, []int{2}, false}, {f, []int{1}, []int{1}, false},
		{f, []int{0}, nil, false}, {f, nil, []int{0}, false}, {f, []int{1, 0}, []int{2}, false}, {f, []int{1}, []int{2, 0}, false}, {f, nil, []int{-3}, false}, {f, []int{-1}, nil, false}, {f, []int{0, 0}, []int{0, 0}, false}, {f, []int{math.MinInt}, []int{math.MaxInt}, false},
		{copies, []int{7, api.MaxNum, 7}, []int{7, api.MaxNum, 7}, true}, {copies, []int{7, 7}, []int{7}, false}, {copies, []int{0}, []int{0}, false}, {copies, []int{0}, nil, false}, {copies, nil, []int{0}, false}, {copies, []int{7 + 1<<32}, []int{7}, false}, {copies, []int{api.MaxNum + 1}, []int{api.MaxNum + 1}, false},
	} {
		if ok := fst.Accepts(c.f, c.in, c.out); ok != c.ok {
			t.Errorf("%d: Accepts(%v, %v) = %t", i, c.in, c.out, ok)
		}
	}
}

func same(a, b [][]int) bool {
	return slices.EqualFunc(a, b, func(x, y []int) bool { return slices.Equal(x, y) })
}

// P20.3
func TestOutputs(t *testing.T) {
	f := api.Fst{States: 2, Arcs: []api.Arc{arc(0, 1, 2, 0), arc(0, 1, 0, 0), arc(0, 0, 0, 1), arc(1, 0, 3, 1)}, Final: []int{1}}
	star := api.Fst{States: 1, Arcs: []api.Arc{arc(0, 1, 2, 0), arc(0, 1, 0, 0)}, Final: []int{0}}
	// The numbers are ordered as numbers, and an output that is written in several ways is there once.
	numbers := api.Fst{States: 3, Arcs: []api.Arc{arc(0, 1, 10, 1), arc(0, 1, 9, 1), arc(0, 1, api.MaxNum, 2), arc(0, 1, 9, 2), arc(0, 0, 9, 0), arc(1, 1, 0, 2), arc(2, 0, 0, 1), arc(2, 0, 0, 2)}, Final: []int{1, 2}}
	for i, c := range []struct {
		f            api.Fst
		in           []int
		length, most int
		want         [][]int
		ok           bool
	}{
		{star, []int{1, 1}, 24, 3, [][]int{nil, {2}, {2, 2}}, true},
		{f, []int{1, 1}, 2, 10, [][]int{nil, {2}, {2, 2}, {2, 3}, {3}, {3, 3}}, true}, {f, []int{1, 1}, 2, 6, [][]int{nil, {2}, {2, 2}, {2, 3}, {3}, {3, 3}}, true}, {f, []int{1, 1}, 2, 5, nil, false}, {f, []int{1, 1}, 2, 0, nil, false},
		{f, []int{1, 1}, 1, 3, [][]int{nil, {2}, {3}}, true}, {f, []int{1, 1}, 1, 2, nil, false}, {f, []int{1, 1}, 0, 1, [][]int{nil}, true}, {f, []int{1, 1}, 0, 0, nil, false}, {f, nil, 2, math.MaxInt, [][]int{nil, {3}, {3, 3}}, true},
		{f, []int{2}, 5, 0, nil, true}, {f, []int{1, 2}, 5, 5, nil, true},
		// An input that is none has no outputs; a wrong length or number comes first.
		{f, []int{0}, 5, 5, nil, true}, {f, []int{1, -1}, 0, 0, nil, true}, {f, []int{0}, -1, 5, nil, false}, {f, []int{0}, 25, 5, nil, false}, {f, []int{0}, 5, -1, nil, false},
		{f, []int{1}, -1, 5, nil, false}, {f, []int{1}, api.MaxWord + 1, 99, nil, false}, {f, []int{2}, api.MaxWord + 1, 99, nil, false}, {f, []int{2}, 3, -1, nil, false}, {f, []int{2}, math.MinInt, 3, nil, false}, {f, []int{2}, math.MaxInt, 3, nil, false}, {f, []int{2}, 3, math.MinInt, nil, false},
		{numbers, []int{1}, 2, 10, [][]int{{9}, {9, 9}, {9, 10}, {9, api.MaxNum}, {10}, {api.MaxNum}}, true}, {numbers, []int{1, 1}, 1, 10, [][]int{{9}, {10}, {api.MaxNum}}, true}, {numbers, nil, 9, 10, nil, true},
		{api.Fst{States: 1, Final: []int{0}}, nil, 3, 1, [][]int{nil}, true}, {api.Fst{States: 1, Final: []int{0}}, []int{1}, 3, 1, nil, true}, {api.Fst{States: 2}, nil, 3, 1, nil, true},
	} {
		if l, ok := fst.Outputs(c.f, c.in, c.length, c.most); !same(l, c.want) || ok != c.ok {
			t.Errorf("%d: Outputs(%v, %d, %d) = %v, %t", i, c.in, c.length, c.most, l, ok)
		}
	}
	if l, ok := fst.Outputs(f, []int{1}, api.MaxWord, 49); len(l) != 49 || !ok || len(l[24]) != 24 || l[24][0] != 2 || len(l[48]) != 24 || l[48][0] != 3 {
		t.Errorf("outputs of the greatest length: %d, %t", len(l), ok)
	}
}

// configuration is what a path has done: the state where it is, what it has read, and what it has written.
type configuration struct {
	state   int
	in, out string
}

// configurations returns what paths can do with inputs of at most ins, and outputs of at most outs symbols, each below 10, from the definition.
func configurations(f api.Fst, ins, outs int) map[configuration]bool {
	symbol := func(n int) string {
		if n == 0 {
			return ""
		}
		return string(rune('0' + n))
	}
	found := map[configuration]bool{{}: true}
	for waiting := []configuration{{}}; len(waiting) > 0; waiting = waiting[1:] {
		c := waiting[0]
		for _, a := range f.Arcs {
			next := configuration{a.To, c.in + symbol(a.In), c.out + symbol(a.Out)}
			if a.From == c.state && len(next.in) <= ins && len(next.out) <= outs && !found[next] {
				found[next] = true
				waiting = append(waiting, next)
			}
		}
	}
	return found
}

// accepted returns, for each input, the outputs that are accepted with it, in order.
func accepted(f api.Fst, ins, outs int) map[string][]string {
	pairs := map[string][]string{}
	for c := range configurations(f, ins, outs) {
		if slices.Contains(f.Final, c.state) {
			pairs[c.in] = append(pairs[c.in], c.out)
		}
	}
	for in, l := range pairs {
		slices.Sort(l)
		pairs[in] = slices.Compact(l)
	}
	return pairs
}

func list(s string) []int {
	var l []int
	for _, c := range s {
		l = append(l, int(c-'0'))
	}
	return l
}

func lists(l []string) [][]int {
	var out [][]int
	for _, s := range l {
		out = append(out, list(s))
	}
	return out
}

// strings returns the strings of at most length of the symbols 1 and 2.
func strings(length int) []string {
	l := []string{""}
	for from := 0; len(l[from]) < length; from++ {
		l = append(l, l[from]+"1", l[from]+"2")
	}
	return l
}

// anyFst returns a small transducer.
func anyFst(random *rand.Rand) api.Fst {
	f := api.Fst{States: 1 + random.Intn(4)}
	for range random.Intn(8) {
		f.Arcs = append(f.Arcs, arc(random.Intn(f.States), random.Intn(3), random.Intn(3), random.Intn(f.States)))
	}
	for state := range f.States {
		if random.Intn(3) == 0 {
			f.Final = append(f.Final, state)
		}
	}
	return f
}

const ins, outs = 3, 3

// P20.2, P20.3, P20.6: what is accepted, by the definition.
func TestAcceptedPairs(t *testing.T) {
	random := rand.New(rand.NewSource(20))
	for range 1500 {
		f := anyFst(random)
		pairs := accepted(f, ins, outs)
		for _, in := range strings(ins) {
			for _, out := range strings(outs) {
				if ok := fst.Accepts(f, list(in), list(out)); ok != slices.Contains(pairs[in], out) {
					t.Fatalf("Accepts(%v, %q, %q) = %t", f, in, out, ok)
				}
			}
			for length := range outs + 1 {
				checkOutputs(t, f, in, length, pairs[in])
			}
		}
	}
}

// checkOutputs checks the outputs of at most length, of those that are accepted with the input.
func checkOutputs(t *testing.T, f api.Fst, in string, length int, outputs []string) {
	want := lists(slices.DeleteFunc(slices.Clone(outputs), func(s string) bool { return len(s) > length }))
	for most := max(0, len(want)-2); most <= len(want)+1; most++ {
		l, ok := fst.Outputs(f, list(in), length, most)
		if most >= len(want) && (!ok || !same(l, want)) || most < len(want) && (ok || len(l) > 0) {
			t.Fatalf("Outputs(%v, %q, %d, %d) = %v, %t, want of %v", f, in, length, most, l, ok, want)
		}
	}
}

// useful returns the useful states, from the definition.
func useful(f api.Fst) []int {
	leads := make([][]bool, f.States)
	for s := range leads {
		leads[s] = make([]bool, f.States)
		leads[s][s] = true
	}
	for range f.States {
		for _, a := range f.Arcs {
			for s := range leads {
				leads[s][a.To] = leads[s][a.To] || leads[s][a.From]
			}
		}
	}
	var l []int
	for s := range f.States {
		if leads[0][s] && slices.ContainsFunc(f.Final, func(end int) bool { return leads[s][end] }) {
			l = append(l, s)
		}
	}
	return l
}

// P20.4
func TestUsefulAndTrim(t *testing.T) {
	// The state 1 does not lead to an end, 3 is not reached, and 4 is the end.
	five := api.Fst{States: 5, Arcs: []api.Arc{arc(0, 1, 1, 1), arc(0, 2, 2, 4), arc(3, 1, 1, 4), arc(4, 3, 3, 2), arc(2, 0, 1, 4)}, Final: []int{3, 4}}
	for i, c := range []struct {
		f      api.Fst
		useful []int
		trim   api.Fst
	}{
		{five, []int{0, 2, 4}, api.Fst{States: 3, Arcs: []api.Arc{arc(0, 2, 2, 2), arc(2, 3, 3, 1), arc(1, 0, 1, 2)}, Final: []int{2}}},
		{api.Fst{States: 1}, nil, api.Fst{States: 1}}, {api.Fst{States: 1, Final: []int{0}}, []int{0}, api.Fst{States: 1, Final: []int{0}}}, {api.Fst{States: 3, Arcs: []api.Arc{arc(0, 1, 2, 0)}}, nil, api.Fst{States: 1}},
		{api.Fst{States: 3, Arcs: []api.Arc{arc(0, 1, 0, 1), arc(0, 0, 0, 0)}, Final: []int{2}}, nil, api.Fst{States: 1}}, {api.Fst{States: 3, Arcs: []api.Arc{arc(1, 1, 0, 0), arc(1, 0, 0, 2)}, Final: []int{2}}, nil, api.Fst{States: 1}},
		{api.Fst{States: 3, Arcs: []api.Arc{arc(1, 1, 0, 0), arc(0, 0, 0, 0), arc(0, 5, 0, 2), arc(0, 5, 0, 2)}, Final: []int{0, 1, 2}}, []int{0, 2}, api.Fst{States: 2, Arcs: []api.Arc{arc(0, 0, 0, 0), arc(0, 5, 0, 1), arc(0, 5, 0, 1)}, Final: []int{0, 1}}},
		{api.Fst{States: 3, Arcs: []api.Arc{arc(0, 1, 2, 2), arc(2, 3, 4, 1), arc(1, api.MaxNum, 0, 0)}, Final: []int{0}}, []int{0, 1, 2}, api.Fst{States: 3, Arcs: []api.Arc{arc(0, 1, 2, 2), arc(2, 3, 4, 1), arc(1, api.MaxNum, 0, 0)}, Final: []int{0}}},
	} {
		if l := fst.Useful(c.f); !slices.Equal(l, c.useful) {
			t.Errorf("%d: Useful = %v", i, l)
		}
		if g := fst.Trim(c.f); !fst.Same(g, c.trim) {
			t.Errorf("%d: Trim = %v", i, g)
		}
		if fst.Empty(c.f) != (len(c.useful) == 0) {
			t.Errorf("%d: Empty = %t", i, fst.Empty(c.f))
		}
	}
}

// trimmed returns what Trim returns, from the definition, for a transducer with these useful states.
func trimmed(f api.Fst, useful []int) api.Fst {
	if len(useful) == 0 {
		return api.Fst{States: 1}
	}
	g := api.Fst{States: len(useful)}
	for _, a := range f.Arcs {
		from, to := slices.Index(useful, a.From), slices.Index(useful, a.To)
		if from >= 0 && to >= 0 {
			g.Arcs = append(g.Arcs, arc(from, a.In, a.Out, to))
		}
	}
	for i, state := range useful {
		if slices.Contains(f.Final, state) {
			g.Final = append(g.Final, i)
		}
	}
	return g
}

// P20.4, P20.6
func TestTrimAcceptsTheSame(t *testing.T) {
	random := rand.New(rand.NewSource(204))
	for range 2000 {
		f := anyFst(random)
		l := useful(f)
		g := fst.Trim(f)
		if got := fst.Useful(f); !slices.Equal(got, l) || fst.Empty(f) != (len(l) == 0) {
			t.Fatalf("Useful(%v) = %v, Empty is %t, want %v", f, got, fst.Empty(f), l)
		}
		if !fst.Same(g, trimmed(f, l)) || fst.Check(g) != api.OK || !fst.Same(fst.Trim(g), g) {
			t.Fatalf("Trim(%v) = %v", f, g)
		}
		if len(l) > 0 && len(fst.Useful(g)) != g.States || fst.Empty(g) != fst.Empty(f) {
			t.Fatalf("Trim(%v) = %v, with the useful states %v", f, g, fst.Useful(g))
		}
		for _, in := range strings(ins) {
			a, _ := fst.Outputs(f, list(in), outs, 100)
			b, _ := fst.Outputs(g, list(in), outs, 100)
			if !same(a, b) {
				t.Fatalf("the outputs of %v for %q are %v, and %v of its Trim", f, in, a, b)
			}
			for _, out := range strings(2) {
				if fst.Accepts(f, list(in), list(out)) != fst.Accepts(g, list(in), list(out)) {
					t.Fatalf("Trim(%v) = %v, which differs in %q, %q", f, g, in, out)
				}
			}
		}
	}
}

// P20.6: a further arc, and the order of the arcs.
func TestFurtherArcs(t *testing.T) {
	random := rand.New(rand.NewSource(206))
	for range 500 {
		f := anyFst(random)
		more, other := f, f
		more.Arcs = append(slices.Clone(f.Arcs), arc(random.Intn(f.States), random.Intn(3), random.Intn(3), random.Intn(f.States)))
		other.Arcs = slices.Clone(f.Arcs)
		random.Shuffle(len(other.Arcs), func(i, k int) { other.Arcs[i], other.Arcs[k] = other.Arcs[k], other.Arcs[i] })
		for _, in := range strings(ins) {
			a, _ := fst.Outputs(f, list(in), outs, 100)
			b, _ := fst.Outputs(other, list(in), outs, 100)
			if !same(a, b) {
				t.Fatalf("%v has the outputs %v for %q, and with another order %v", f, a, in, b)
			}
			for _, out := range a {
				if !fst.Accepts(f, list(in), out) || !fst.Accepts(more, list(in), out) || !fst.Accepts(other, list(in), out) {
					t.Fatalf("%v: the pair %q, %v is not accepted, or not with a further arc", f, in, out)
				}
			}
		}
	}
}

// P20.5
func TestSame(t *testing.T) {
	f := func() api.Fst {
		return api.Fst{States: 3, Arcs: []api.Arc{arc(0, 1, 2, 1), arc(1, 3, 0, 2)}, Final: []int{0, 2}}
	}
	if !fst.Same(f(), f()) || !fst.Same(api.Fst{}, api.Fst{}) || !fst.Same(api.Fst{States: 1, Arcs: []api.Arc{}, Final: nil}, api.Fst{States: 1, Final: []int{}}) {
		t.Error("Same is false")
	}
	for i, change := range []func(g *api.Fst){
		func(g *api.Fst) { g.States = 4 }, func(g *api.Fst) { g.Arcs[0].From = 1 }, func(g *api.Fst) { g.Arcs[1].In = 4 }, func(g *api.Fst) { g.Arcs[0].Out = 0 }, func(g *api.Fst) { g.Arcs[1].To = 0 }, func(g *api.Fst) { g.Arcs = g.Arcs[:1] }, func(g *api.Fst) { g.Arcs = nil }, func(g *api.Fst) { g.Arcs = append(g.Arcs, g.Arcs[1]) }, func(g *api.Fst) { slices.Reverse(g.Arcs) },
		func(g *api.Fst) { g.Final[1] = 1 }, func(g *api.Fst) { g.Final = g.Final[:1] }, func(g *api.Fst) { g.Final = nil },
	} {
		g := f()
		change(&g)
		if fst.Same(f(), g) || fst.Same(g, f()) || !fst.Same(g, g) {
			t.Errorf("%d: Same with %v", i, g)
		}
	}
}

// R1: many states, arcs and symbols.
func TestLargeTransducers(t *testing.T) {
	chain := api.Fst{States: api.MaxStates, Final: []int{api.MaxStates - 1}}
	for state := range api.MaxStates - 1 {
		chain.Arcs = append(chain.Arcs, arc(state, 0, 0, state+1), arc(state+1, 0, 0, state))
	}
	chain.Arcs = append(chain.Arcs, arc(api.MaxStates-1, 1, 2, 0))
	if !fst.Accepts(chain, []int{1, 1, 1}, []int{2, 2, 2}) || fst.Accepts(chain, []int{1, 1, 1}, []int{2, 2}) || len(fst.Useful(chain)) != api.MaxStates || !fst.Same(fst.Trim(chain), chain) {
		t.Error("a chain of states")
	}
	if l, ok := fst.Outputs(chain, []int{1, 1, 1}, api.MaxWord, 5); !ok || !same(l, [][]int{{2, 2, 2}}) {
		t.Errorf("the outputs of a chain of states: %v, %t", l, ok)
	}
	long := slices.Repeat([]int{1}, 50000)
	copies := api.Fst{States: 1, Arcs: []api.Arc{arc(0, 1, 0, 0), arc(0, 2, 3, 0)}, Final: []int{0}}
	if !fst.Accepts(copies, long, nil) || fst.Accepts(copies, long, []int{3}) || !fst.Accepts(copies, append(long, 2), []int{3}) {
		t.Error("a long input")
	}
	// With two numbers at each place, there are too many outputs to list them all.
	binary := api.Fst{States: 1, Arcs: []api.Arc{arc(0, 0, 1, 0), arc(0, 0, 2, 0), arc(0, 1, 0, 0)}, Final: []int{0}}
	if l, ok := fst.Outputs(binary, []int{1}, api.MaxWord, 1000); len(l) != 0 || ok {
		t.Errorf("too many outputs: %d, %t", len(l), ok)
	}
	if l, ok := fst.Outputs(binary, []int{1}, 9, 1023); len(l) != 1023 || !ok {
		t.Errorf("all outputs of at most 9 numbers: %d, %t", len(l), ok)
	}
}

// R1, P20.3: outputs that need longer than the length are not looked for in vain.
func TestOutputsThatAreTooLong(t *testing.T) {
	f := api.Fst{States: 26, Final: []int{0, 25}}
	for state := range 25 {
		f.Arcs = append(f.Arcs, arc(state, 0, 1, state+1), arc(state, 0, 2, state+1), arc(state, 0, 3, state+1))
	}
	if l, ok := fst.Outputs(f, nil, api.MaxWord, 9); !ok || !same(l, [][]int{nil}) {
		t.Errorf("Outputs = %v, %t", l, ok)
	}
	for n := api.MaxWord - 2; n <= api.MaxWord+1; n++ {
		line := api.Fst{States: n + 1, Final: []int{n}}
		var want [][]int
		for state := range n {
			line.Arcs = append(line.Arcs, arc(state, 0, 5, state+1))
		}
		if n <= api.MaxWord {
			want = [][]int{slices.Repeat([]int{5}, n)}
		}
		if l, ok := fst.Outputs(line, nil, api.MaxWord, 9); !ok || !same(l, want) {
			t.Errorf("the outputs of a line of %d arcs: %v, %t", n, l, ok)
		}
	}
}

// R5: arguments are not modified.
func TestArgumentsAreKept(t *testing.T) {
	f := api.Fst{States: 3, Arcs: []api.Arc{arc(2, 1, 2, 1), arc(0, 1, 2, 2)}, Final: []int{0, 2}}
	arcs, final, in := slices.Clone(f.Arcs), slices.Clone(f.Final), []int{1, 1}
	fst.Accepts(f, in, in)
	fst.Outputs(f, in, 3, 3)
	fst.Useful(f)
	fst.Trim(f)
	if !slices.Equal(f.Arcs, arcs) || !slices.Equal(f.Final, final) || !slices.Equal(in, []int{1, 1}) {
		t.Errorf("the arguments became %v, %v", f, in)
	}
}
