// Package tactics is layer 23: morphotactics. See shared/doc/23-tactics.md.
package tactics

import (
	"iter"
	"slices"

	"langdoc/api"
)

// maxSteps is the greatest number of steps of a net.
const maxSteps = 200

// set is a set of states, or of classes: each is a bit.
type set uint32

// start is the set of the state where each path begins.
const start set = 1

// Check is specified in P23.1.
func Check(n api.Net) api.Errno {
	if n.States < 1 || n.States > api.MaxNet {
		return api.ErrRange
	}
	if len(n.Steps) > maxSteps {
		return api.ErrFull
	}
	for i, s := range n.Steps {
		if !isState(n, s.From) || !isState(n, s.To) {
			return api.ErrRange
		}
		if s.Class < 1 || s.Class > api.MaxClasses {
			return api.ErrClass
		}
		if slices.Contains(n.Steps[:i], s) {
			return api.ErrTwice
		}
	}
	return checkFinal(n)
}

// Accepts is specified in P23.2.
func Accepts(n api.Net, l []int) bool {
	return path(n, l)&setOf(n.Final) != 0
}

// Follow is specified in P23.2.
func Follow(n api.Net, l []int) []int {
	return members(between(n, path(n, l), live(n)))
}

// Words is specified in P23.3.
func Words(n api.Net, length int) [][]int {
	if length < 0 || length > api.MaxMorphs {
		return nil
	}
	final, alive := setOf(n.Final), live(n)
	var out [][]int
	var visit func(word []int, states set)
	visit = func(word []int, states set) {
		if states&final != 0 {
			out = append(out, slices.Clone(word))
		}
		if len(word) == length {
			return
		}
		for _, class := range members(between(n, states, alive)) {
			visit(append(word, class), after(n, states, class))
		}
	}
	visit(nil, start)
	return out
}

// Classes is specified in P23.4.
func Classes(n api.Net) []int {
	return members(between(n, reached(n), live(n)))
}

// Endless is specified in P23.4.
func Endless(n api.Net) bool {
	alive := live(n)
	states := start & alive
	// A path with as many steps as there can be states comes back to one of them, and may do so again.
	for range api.MaxNet {
		var next set
		for s := range leaving(n, states) {
			next |= one(s.To) & alive
		}
		states = next
	}
	return states != 0
}

func checkFinal(n api.Net) api.Errno {
	for i := 1; i < len(n.Final); i++ {
		if n.Final[i] <= n.Final[i-1] {
			return api.ErrOrder
		}
	}
	for _, state := range n.Final {
		if !isState(n, state) {
			return api.ErrRange
		}
	}
	return api.OK
}

func isState(n api.Net, state int) bool {
	return state >= 0 && state < n.States
}

// leaving visits the steps that begin in one of the states.
func leaving(n api.Net, states set) iter.Seq[api.Step] {
	return func(yield func(api.Step) bool) {
		for _, s := range n.Steps {
			if states&one(s.From) != 0 && !yield(s) {
				return
			}
		}
	}
}

// after returns the states to which a step by the class leads from one of the states.
func after(n api.Net, states set, class int) set {
	var to set
	for s := range leaving(n, states) {
		if s.Class == class {
			to |= one(s.To)
		}
	}
	return to
}

// path returns the states in which paths with these classes end.
func path(n api.Net, l []int) set {
	states := start
	for _, class := range l {
		states = after(n, states, class)
	}
	return states
}

// between returns the classes of the steps from one of the states from to one of the states to.
func between(n api.Net, from, to set) set {
	var classes set
	for s := range leaving(n, from) {
		if to&one(s.To) != 0 {
			classes |= one(s.Class)
		}
	}
	return classes
}

// reached returns the states to which a path leads from the start.
func reached(n api.Net) set {
	states := start
	for range api.MaxNet {
		for s := range leaving(n, states) {
			states |= one(s.To)
		}
	}
	return states
}

// live returns the states from which a path leads to a final state.
func live(n api.Net) set {
	states := setOf(n.Final)
	for range api.MaxNet {
		for s := range leaving(n, ^set(0)) {
			if states&one(s.To) != 0 {
				states |= one(s.From)
			}
		}
	}
	return states
}

// one returns the set of a number, which is empty if the set has no bit for it.
func one(n int) set {
	return 1 << uint(n)
}

func setOf(l []int) set {
	var out set
	for _, n := range l {
		out |= one(n)
	}
	return out
}

// members returns the elements of a set of classes, increasing.
func members(classes set) []int {
	var out []int
	for class := 1; class <= api.MaxClasses; class++ {
		if classes&one(class) != 0 {
			out = append(out, class)
		}
	}
	return out
}
