package tactics_test

import (
	"math"
	"slices"
	"testing"

	"langdoc/api"
	"langdoc/tactics"
)

func step(from, class, to int) api.Step { return api.Step{From: from, Class: class, To: to} }

// steps returns that many steps, which all differ, of a net of 24 states.
func steps(count int) []api.Step {
	var l []api.Step
	for i := range count {
		l = append(l, step(i%24, 1+i/24, i%24))
	}
	return l
}

// P23.1
func TestCheck(t *testing.T) {
	for i, c := range []struct {
		n   api.Net
		err api.Errno
	}{
		{api.Net{States: 1}, api.OK},
		{api.Net{States: 24, Steps: steps(200), Final: []int{0, 5, 23}}, api.OK},
		{api.Net{States: 2, Steps: []api.Step{step(0, 1, 1), step(0, 1, 0), step(0, 2, 1), step(1, 1, 1)}, Final: []int{0, 1}}, api.OK},
		{api.Net{States: 1, Steps: []api.Step{step(0, 20, 0)}}, api.OK},
		{api.Net{}, api.ErrRange},
		{api.Net{States: -1}, api.ErrRange},
		{api.Net{States: 25}, api.ErrRange},
		{api.Net{States: math.MaxInt}, api.ErrRange},
		{api.Net{States: 24, Steps: steps(201)}, api.ErrFull},
		{api.Net{States: 2, Steps: []api.Step{step(-1, 1, 0)}}, api.ErrRange},
		{api.Net{States: 2, Steps: []api.Step{step(2, 1, 0)}}, api.ErrRange},
		{api.Net{States: 2, Steps: []api.Step{step(0, 1, -1)}}, api.ErrRange},
		{api.Net{States: 2, Steps: []api.Step{step(0, 1, 2)}}, api.ErrRange},
		{api.Net{States: 2, Steps: []api.Step{step(0, 0, 1)}}, api.ErrClass},
		{api.Net{States: 2, Steps: []api.Step{step(0, -3, 1)}}, api.ErrClass},
		{api.Net{States: 2, Steps: []api.Step{step(0, 21, 1)}}, api.ErrClass},
		{api.Net{States: 2, Steps: []api.Step{step(0, 1, 1), step(0, 1, 1)}}, api.ErrTwice},
		{api.Net{States: 2, Steps: []api.Step{step(0, 1, 1), step(1, 1, 1), step(0, 1, 1)}}, api.ErrTwice},
		{api.Net{States: 3, Final: []int{1, 1}}, api.ErrOrder},
		{api.Net{States: 3, Final: []int{2, 0}}, api.ErrOrder},
		{api.Net{States: 3, Final: []int{0, 2, 1}}, api.ErrOrder},
		{api.Net{States: 3, Final: []int{-1, 1}}, api.ErrRange},
		{api.Net{States: 3, Final: []int{0, 3}}, api.ErrRange},
		{api.Net{States: 1, Final: []int{math.MaxInt}}, api.ErrRange},
	} {
		if err := tactics.Check(c.n); err != c.err {
			t.Errorf("%d: Check = %d, want %d", i, err, c.err)
		}
	}
}

// P23.1, R3: of several errors, the first one that is listed, and of the first step that has one.
func TestCheckOrder(t *testing.T) {
	bad, badClass, good := step(0, 1, 9), step(0, 99, 0), step(0, 1, 0)
	for i, c := range []struct {
		n   api.Net
		err api.Errno
	}{
		{api.Net{States: 0, Steps: steps(201), Final: []int{3, 3}}, api.ErrRange},
		{api.Net{States: 1, Steps: steps(201), Final: []int{3, 3}}, api.ErrFull},
		{api.Net{States: 1, Steps: []api.Step{step(9, 99, 0)}}, api.ErrRange},
		{api.Net{States: 1, Steps: []api.Step{step(0, 99, 9)}}, api.ErrRange},
		{api.Net{States: 1, Steps: []api.Step{badClass, bad}}, api.ErrClass},
		{api.Net{States: 1, Steps: []api.Step{bad, badClass}}, api.ErrRange},
		{api.Net{States: 1, Steps: []api.Step{bad, bad}}, api.ErrRange},
		{api.Net{States: 1, Steps: []api.Step{badClass, badClass}}, api.ErrClass},
		{api.Net{States: 1, Steps: []api.Step{good, good, bad}}, api.ErrTwice},
		{api.Net{States: 1, Steps: []api.Step{good, bad, good}}, api.ErrRange},
		{api.Net{States: 1, Steps: []api.Step{good, badClass, good}}, api.ErrClass},
		{api.Net{States: 1, Steps: []api.Step{good, good}, Final: []int{3, 3}}, api.ErrTwice},
		{api.Net{States: 1, Steps: []api.Step{badClass}, Final: []int{3}}, api.ErrClass},
		{api.Net{States: 1, Final: []int{5, 0}}, api.ErrOrder},
		{api.Net{States: 1, Final: []int{-1, -1}}, api.ErrOrder},
	} {
		if err := tactics.Check(c.n); err != c.err {
			t.Errorf("%d: Check = %d, want %d", i, err, c.err)
		}
	}
}

// prefixed has any number of prefixes 3, a root 1, and at most one suffix 2; the step by 5 leads nowhere, and the one by 6 comes from nowhere.
var prefixed = api.Net{States: 5, Steps: []api.Step{step(1, 5, 3), step(0, 3, 0), step(1, 2, 2), step(0, 1, 1), step(4, 6, 1)}, Final: []int{1, 2}}

// P23.2
func TestAcceptsAndFollow(t *testing.T) {
	for i, c := range []struct {
		l      []int
		ok     bool
		follow []int
	}{
		{nil, false, []int{1, 3}},
		{[]int{1}, true, []int{2}},
		{[]int{3}, false, []int{1, 3}},
		{[]int{3, 3, 3, 3, 3, 1}, true, []int{2}},
		{[]int{3, 1, 2}, true, nil},
		{[]int{1, 2, 2}, false, nil},
		{[]int{1, 5}, false, nil},
		{[]int{1, 5, 2}, false, nil},
		{[]int{6}, false, nil},
		{[]int{6, 1}, false, nil},
		{[]int{2}, false, nil},
		{[]int{0}, false, nil},
		{[]int{0, 1}, false, nil},
		{[]int{1, 0}, false, nil},
		{[]int{-1}, false, nil},
		{[]int{1, 99}, false, nil},
		{[]int{33}, false, nil},
		{[]int{1 + 1<<32}, false, nil},
		{[]int{math.MinInt, 1}, false, nil},
		{[]int{math.MaxInt, 1}, false, nil},
	} {
		if ok, l := tactics.Accepts(prefixed, c.l), tactics.Follow(prefixed, c.l); ok != c.ok || !slices.Equal(l, c.follow) {
			t.Errorf("%d: Accepts, Follow of %v: %t, %v", i, c.l, ok, l)
		}
	}
	if tactics.Accepts(api.Net{States: 3}, nil) || !tactics.Accepts(api.Net{States: 1, Final: []int{0}}, nil) {
		t.Error("the empty list is accepted exactly if the state 0 is final")
	}
}

// P23.3, P23.4, the document's example.
func TestExample(t *testing.T) {
	n := api.Net{States: 2, Steps: []api.Step{step(0, 1, 1), step(1, 2, 1)}, Final: []int{1}}
	if l := tactics.Words(n, 2); !equal(l, [][]int{{1}, {1, 2}}) {
		t.Error(l)
	}
	if l := tactics.Follow(n, []int{1}); !slices.Equal(l, []int{2}) || !tactics.Endless(n) {
		t.Error(l, tactics.Endless(n))
	}
}

func equal(a, b [][]int) bool {
	return slices.EqualFunc(a, b, slices.Equal[[]int])
}

// P23.3
func TestWords(t *testing.T) {
	for length, want := range map[int][][]int{
		0: nil,
		1: {{1}},
		2: {{1}, {1, 2}, {3, 1}},
		3: {{1}, {1, 2}, {3, 1}, {3, 1, 2}, {3, 3, 1}},
		4: {{1}, {1, 2}, {3, 1}, {3, 1, 2}, {3, 3, 1}, {3, 3, 1, 2}, {3, 3, 3, 1}},
		5: nil, 6: nil, -1: nil, math.MinInt: nil, math.MaxInt: nil,
	} {
		if l := tactics.Words(prefixed, length); !equal(l, want) {
			t.Errorf("Words(%d) = %v", length, l)
		}
	}
	// Several paths with the same classes make one word; the empty list comes first.
	n := api.Net{States: 3, Steps: []api.Step{step(0, 2, 1), step(0, 2, 2), step(0, 1, 2), step(0, 1, 1)}, Final: []int{0, 1, 2}}
	if l := tactics.Words(n, 3); !equal(l, [][]int{nil, {1}, {2}}) {
		t.Error(l)
	}
	if l := tactics.Words(n, 0); !equal(l, [][]int{nil}) {
		t.Error(l)
	}
}

// P23.3: the greatest number of words; all of them are memory of their own.
func TestAllWords(t *testing.T) {
	n := api.Net{States: 1, Final: []int{0}}
	for class := 20; class >= 1; class-- {
		n.Steps = append(n.Steps, step(0, class, 0))
	}
	l := tactics.Words(n, 4)
	if len(l) != 1+20+400+8000+160000 {
		t.Fatal(len(l))
	}
	for i, w := range l {
		if i > 0 && slices.Compare(l[i-1], w) >= 0 {
			t.Fatal(l[i-1], w)
		}
		for _, class := range w {
			if class < 1 || class > 20 {
				t.Fatal(w)
			}
		}
	}
	if got := tactics.Follow(n, []int{20, 1, 7}); len(got) != 20 || got[0] != 1 || got[19] != 20 || len(tactics.Classes(n)) != 20 {
		t.Error(got)
	}
}

// P23.4
func TestClassesAndEndless(t *testing.T) {
	for i, c := range []struct {
		n       api.Net
		classes []int
		endless bool
	}{
		{prefixed, []int{1, 2, 3}, true},
		{api.Net{States: 1}, nil, false},
		{api.Net{States: 1, Final: []int{0}}, nil, false},
		{api.Net{States: 1, Steps: []api.Step{step(0, 20, 0)}, Final: []int{0}}, []int{20}, true},
		{api.Net{States: 1, Steps: []api.Step{step(0, 20, 0)}}, nil, false},
		// The cycle of the state 1 does not lead to an end.
		{api.Net{States: 3, Steps: []api.Step{step(0, 1, 1), step(1, 1, 1), step(0, 2, 2), step(0, 4, 2)}, Final: []int{0, 2}}, []int{2, 4}, false},
		// The cycle of the state 1 is not reached.
		{api.Net{States: 2, Steps: []api.Step{step(1, 3, 1), step(1, 4, 0)}, Final: []int{0}}, nil, false},
		// The cycle is a long one, and its classes are met from its middle.
		{api.Net{States: 4, Steps: []api.Step{step(3, 1, 1), step(2, 2, 3), step(1, 3, 2), step(0, 4, 2)}, Final: []int{1}}, []int{1, 2, 3, 4}, true},
		// Two ways to one state are no cycle.
		{api.Net{States: 4, Steps: []api.Step{step(0, 1, 1), step(0, 2, 2), step(1, 3, 3), step(2, 4, 3), step(1, 5, 2)}, Final: []int{3}}, []int{1, 2, 3, 4, 5}, false},
	} {
		if got := tactics.Classes(c.n); !slices.Equal(got, c.classes) {
			t.Errorf("%d: Classes = %v", i, got)
		}
		if got := tactics.Endless(c.n); got != c.endless {
			t.Errorf("%d: Endless = %t", i, got)
		}
	}
}

// chain leads through 24 states, from one to the one before it, and perhaps back from the last to the first.
func chain(closed bool) api.Net {
	n := api.Net{States: 24, Steps: []api.Step{step(0, 1, 23)}, Final: []int{1}}
	for state := 2; state < 24; state++ {
		n.Steps = append(n.Steps, step(state, 1+state%20, state-1))
	}
	if closed {
		n.Steps = append(n.Steps, step(1, 7, 0))
	}
	return n
}

// P23.2, P23.4, P23.5: the longest lists that a net accepts without being endless.
func TestLongChain(t *testing.T) {
	n := chain(false)
	var l []int
	for len(tactics.Follow(n, l)) > 0 {
		if tactics.Accepts(n, l) {
			t.Fatal(l)
		}
		l = append(l, tactics.Follow(n, l)...)
	}
	if len(l) != 23 || !tactics.Accepts(n, l) || tactics.Endless(n) || len(tactics.Classes(n)) != 20 {
		t.Error(l, tactics.Endless(n), tactics.Classes(n))
	}
	if got := tactics.Follow(chain(true), l); !slices.Equal(got, []int{7}) || !tactics.Endless(chain(true)) {
		t.Error(got)
	}
}

// accepts is the definition: there is a path from the state with these classes to a final state.
func accepts(n api.Net, state int, l []int) bool {
	if len(l) == 0 {
		return slices.Contains(n.Final, state)
	}
	for _, s := range n.Steps {
		if s.From == state && s.Class == l[0] && accepts(n, s.To, l[1:]) {
			return true
		}
	}
	return false
}

// lists returns the lists of at most length of the classes 1 and 2, in lexicographic order.
func lists(length int) [][]int {
	var all [][]int
	var visit func(l []int)
	visit = func(l []int) {
		all = append(all, slices.Clone(l))
		if len(l) < length {
			visit(append(slices.Clone(l), 1))
			visit(append(slices.Clone(l), 2))
		}
	}
	visit(nil)
	return all
}

// smallNets visits nets of two or three states with the classes 1 and 2.
func smallNets(visit func(n api.Net)) {
	for states := 2; states <= 3; states++ {
		var all []api.Step
		for i := range states * states * 2 {
			all = append(all, step(i%states, 2-i/states/states, i/states%states))
		}
		for chosen := 0; chosen < 1<<len(all); chosen += 1 + (states-2)*577 {
			n := api.Net{States: states}
			for i, s := range all {
				if chosen>>i&1 == 1 {
					n.Steps = append(n.Steps, s)
				}
			}
			for final := range 1 << states {
				n.Final = nil
				for state := range states {
					if final>>state&1 == 1 {
						n.Final = append(n.Final, state)
					}
				}
				visit(n)
			}
		}
	}
}

// P23.2, P23.3, P23.4, from their definitions: what is possible has a continuation of fewer classes than there are states, and a net is endless if it accepts a list that is longer than that, of fewer than twice as many.
func TestSmallNets(t *testing.T) {
	all := lists(5)
	smallNets(func(n api.Net) {
		if tactics.Check(n) != api.OK {
			t.Fatal(n)
		}
		accepted := [][]int{}
		possible := func(l []int) bool {
			return slices.ContainsFunc(accepted, func(w []int) bool { return len(w) >= len(l) && slices.Equal(w[:len(l)], l) })
		}
		for _, l := range all {
			if accepts(n, 0, l) {
				accepted = append(accepted, l)
			}
		}
		endless, classes := false, map[int]bool{}
		for _, w := range accepted {
			endless = endless || len(w) >= n.States && len(w) < 2*n.States
			for _, class := range w {
				classes[class] = true
			}
		}
		if tactics.Endless(n) != endless {
			t.Fatalf("Endless(%v) = %t", n, !endless)
		}
		checkLists(t, n, all, possible)
		for length := 0; length <= 4; length++ {
			want := slices.DeleteFunc(slices.Clone(accepted), func(w []int) bool { return len(w) > length })
			if got := tactics.Words(n, length); !equal(got, want) {
				t.Fatalf("Words(%v, %d) = %v, want %v", n, length, got, want)
			}
		}
		for class := 0; class <= 3; class++ {
			if slices.Contains(tactics.Classes(n), class) != classes[class] || !slices.IsSorted(tactics.Classes(n)) {
				t.Fatalf("Classes(%v) = %v", n, tactics.Classes(n))
			}
		}
	})
}

func checkLists(t *testing.T, n api.Net, all [][]int, possible func(l []int) bool) {
	for _, l := range all {
		if tactics.Accepts(n, l) != accepts(n, 0, l) {
			t.Fatalf("Accepts(%v, %v) = %t", n, l, tactics.Accepts(n, l))
		}
		// The continuations of what is possible have at most two classes beyond the next one.
		if len(l) > 2 {
			continue
		}
		var follow []int
		for _, class := range []int{1, 2} {
			if possible(append(slices.Clone(l), class)) {
				follow = append(follow, class)
			}
		}
		if got := tactics.Follow(n, l); !slices.Equal(got, follow) {
			t.Fatalf("Follow(%v, %v) = %v, want %v", n, l, got, follow)
		}
	}
}

// P23.5
func TestPromisesTogether(t *testing.T) {
	all := lists(4)
	smallNets(func(n api.Net) {
		classes, endless := tactics.Classes(n), tactics.Endless(n)
		for _, l := range all {
			follows := true
			for i, class := range l {
				follows = follows && slices.Contains(tactics.Follow(n, l[:i]), class)
			}
			if !tactics.Accepts(n, l) {
				continue
			}
			inClasses := !slices.ContainsFunc(l, func(class int) bool { return !slices.Contains(classes, class) })
			if !follows || !inClasses || !endless && len(l) >= n.States {
				t.Fatalf("%v accepts %v", n, l)
			}
		}
	})
}

// P23.5: a further step takes no list away, and Words of a length contain Words of a lesser one.
func TestFurtherSteps(t *testing.T) {
	full := api.Net{States: 4, Final: []int{2, 3}}
	for i := range 32 {
		k := i * 13 % 32
		full.Steps = append(full.Steps, step(k%4, 1+k/16, k/4%4))
	}
	var before [][]int
	for count := range len(full.Steps) + 1 {
		n := api.Net{States: 4, Steps: full.Steps[:count], Final: full.Final}
		words := tactics.Words(n, 4)
		for _, w := range before {
			if !slices.ContainsFunc(words, func(v []int) bool { return slices.Equal(v, w) }) {
				t.Fatalf("%v is no word any more", w)
			}
		}
		before = words
		for length := range 4 {
			shorter := slices.DeleteFunc(slices.Clone(words), func(w []int) bool { return len(w) > length })
			if !equal(tactics.Words(n, length), shorter) {
				t.Fatalf("Words(%d) = %v", length, tactics.Words(n, length))
			}
		}
	}
	if len(before) == 0 {
		t.Error("no words")
	}
}

// P23.1 to P23.4, R5
func TestArgumentsStay(t *testing.T) {
	n, l := chain(true), []int{1, 4}
	tactics.Check(n)
	tactics.Accepts(n, l)
	tactics.Follow(n, l)
	tactics.Words(n, 4)
	tactics.Classes(n)
	tactics.Endless(n)
	want := chain(true)
	if n.States != want.States || !slices.Equal(n.Steps, want.Steps) || !slices.Equal(n.Final, want.Final) || !slices.Equal(l, []int{1, 4}) {
		t.Error(n, l)
	}
}
