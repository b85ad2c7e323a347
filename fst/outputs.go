package fst

import (
	"maps"
	"slices"
	"strconv"

	"langdoc/api"
)

// step leads to a place, or to a set of places, and writes a number.
type step struct{ out, to int }

// graph has the places that paths reach with one input, by numbers; 0 is the start.
type graph struct {
	silent  [][]int  // where arcs that write nothing lead, from each place
	writing [][]step // the other arcs
	ends    []bool   // whether a path may end at each place
}

// endless is more than any number of numbers that an output may have.
const endless = api.MaxWord + 1

// explore returns the graph of an input.
func explore(f api.Fst, in []int) graph {
	var g graph
	arcs := leaving(f)
	numbers := map[place]int{{}: 0}
	places := []place{{}}
	for i := 0; i < len(places); i++ {
		p := places[i]
		g.silent = append(g.silent, nil)
		g.writing = append(g.writing, nil)
		g.ends = append(g.ends, p.read == len(in) && isFinal(f, p.state))
		for _, a := range arcs[p.state] {
			read, reads := taken(in, p.read, a.In)
			if !reads {
				continue
			}
			next := place{state: a.To, read: read}
			number, found := numbers[next]
			if !found {
				number = len(places)
				numbers[next] = number
				places = append(places, next)
			}
			if a.Out == 0 {
				g.silent[i] = append(g.silent[i], number)
			} else {
				g.writing[i] = append(g.writing[i], step{a.Out, number})
			}
		}
	}
	return g
}

// distances returns how many numbers a path writes from each place to an end, at least, or endless.
func (g graph) distances() []int {
	count := len(g.ends)
	silent, writing := make([][]int, count), make([][]int, count)
	least := make([]int, count)
	var level []int
	for place := range count {
		for _, to := range g.silent[place] {
			silent[to] = append(silent[to], place)
		}
		for _, s := range g.writing[place] {
			writing[s.to] = append(writing[s.to], place)
		}
		least[place] = endless
		if g.ends[place] {
			level = append(level, place)
		}
	}
	for distance := 0; distance < endless && len(level) > 0; distance++ {
		var further []int
		for _, place := range reached(silent, level) {
			if least[place] == endless {
				least[place] = distance
				further = append(further, writing[place]...)
			}
		}
		level = further
	}
	return least
}

// set has the places where paths can be that have written the same.
type set struct {
	places []int
	end    bool // whether a path may end at one of them
	least  int  // how many numbers are written from there to an end, at least
	known  bool // whether the steps were looked for
	steps  []step
}

// sets are the sets of places that were met, by numbers.
type sets struct {
	graph
	least   []int
	all     []set
	numbers map[string]int
}

// number returns the number of the set of those places from which an end can be reached, and of all to which they lead without writing.
func (s *sets) number(places []int) int {
	places = slices.DeleteFunc(reached(s.silent, places), func(place int) bool { return s.least[place] == endless })
	slices.Sort(places)
	var key []byte
	for _, place := range places {
		key = append(strconv.AppendInt(key, int64(place), 10), ' ')
	}
	number, found := s.numbers[string(key)]
	if found {
		return number
	}
	met := set{places: places, least: endless}
	for _, place := range places {
		met.end = met.end || s.ends[place]
		met.least = min(met.least, s.least[place])
	}
	s.all = append(s.all, met)
	s.numbers[string(key)] = len(s.all) - 1
	return len(s.all) - 1
}

// steps returns the steps that lead from a set to others, by what they write.
func (s *sets) steps(number int) []step {
	if s.all[number].known {
		return s.all[number].steps
	}
	targets := map[int][]int{}
	for _, place := range s.all[number].places {
		for _, w := range s.writing[place] {
			targets[w.out] = append(targets[w.out], w.to)
		}
	}
	var steps []step
	for _, out := range slices.Sorted(maps.Keys(targets)) {
		steps = append(steps, step{out, s.number(targets[out])})
	}
	s.all[number].known, s.all[number].steps = true, steps
	return steps
}

// outputs returns the outputs of at most length numbers, in lexicographic order, and true; nothing and false if there are more than most.
func outputs(g graph, length, most int) ([][]int, bool) {
	s := &sets{graph: g, least: g.distances(), numbers: map[string]int{}}
	var found [][]int
	// visit adds the outputs that begin with the word, which leads to a set, and reports whether there is room for them.
	var visit func(word []int, number int) bool
	visit = func(word []int, number int) bool {
		// Only sets from which an end is near enough are visited, so that each visit leads to an output.
		if len(word)+s.all[number].least > length {
			return true
		}
		if s.all[number].end {
			if len(found) == most {
				return false
			}
			found = append(found, slices.Clone(word))
		}
		if len(word) == length {
			return true
		}
		for _, next := range s.steps(number) {
			if !visit(append(word, next.out), next.to) {
				return false
			}
		}
		return true
	}
	if !visit(nil, s.number([]int{0})) {
		return nil, false
	}
	return found, true
}
