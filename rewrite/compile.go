package rewrite

import (
	"slices"

	"langdoc/api"
	"langdoc/phoneme"
)

// A set has the bit n if the last n segments that were read on one side of a place are in the first n classes of a context, and may be the beginning of what matches it. At the edge of the word, no segments were read.
const atEdge = 1

// side has the sets of a context that are met when a side is read from the edge of the word towards the site, by numbers; 0 is the one at the edge.
type side struct {
	next    [][]int // the set behind each set and segment
	matched []bool  // whether the whole context was read just now
}

// Compile is specified in P22.5.
func Compile(inv api.Inventory, r api.Rewrite) (api.Fst, api.Errno) {
	if err := Check(inv, r); err != api.OK {
		return api.Fst{}, err
	}
	// The right side is read from the end of the word.
	fromEnd := slices.Clone(r.Right)
	slices.Reverse(fromEnd)
	return assemble(inv, r, newSide(inv, r.Left, r.Begin), newSide(inv, fromEnd, r.End)), api.OK
}

// assemble returns a transducer whose states, besides the start, stand for the sets of both sides at a place. That of the left side is known there. That of the right side is guessed at the start, and each arc leads from the guess that would be right to that behind its segment.
func assemble(inv api.Inventory, r api.Rewrite, left, right side) api.Fst {
	befores, behinds := len(left.next), len(right.next)
	state := func(before, behind int) int { return 1 + before*behinds + behind }
	f := api.Fst{States: 1 + befores*behinds}
	for behind := range behinds {
		f.Arcs = append(f.Arcs, api.Arc{To: state(0, behind)})
	}
	for before := range befores {
		for behind := range behinds {
			for seg := 1; seg <= len(inv.Segs); seg++ {
				out := seg
				if to, ok := changed(r, seg); ok && left.matched[before] && right.matched[behind] {
					out = to
				}
				f.Arcs = append(f.Arcs, api.Arc{From: state(before, right.next[behind][seg]), In: seg, Out: out, To: state(left.next[before][seg], behind)})
			}
		}
		f.Final = append(f.Final, state(before, 0))
	}
	return f
}

// newSide returns the side of a context; edge reports whether the context begins at the edge of the word.
func newSide(inv api.Inventory, classes []api.Class, edge bool) side {
	var s side
	met := []int{atEdge}
	for i := 0; i < len(met); i++ {
		next := make([]int, len(inv.Segs)+1)
		for seg := 1; seg < len(next); seg++ {
			set := read(inv, classes, edge, met[i], seg)
			if !slices.Contains(met, set) {
				met = append(met, set)
			}
			next[seg] = slices.Index(met, set)
		}
		s.next = append(s.next, next)
		s.matched = append(s.matched, met[i]>>len(classes)&1 == 1)
	}
	return s
}

// read returns the set behind a set and a segment.
func read(inv api.Inventory, classes []api.Class, edge bool, set, seg int) int {
	next := 0
	// Where the context may begin anywhere, it may begin behind each segment.
	if !edge {
		next = atEdge
	}
	for n, c := range classes {
		if set>>n&1 == 1 && phoneme.In(inv, seg, c) {
			next |= 2 << n
		}
	}
	return next
}
