package fstops

import "langdoc/api"

// builder is a transducer to which states and arcs are added; the first state is the start.
type builder struct{ api.Fst }

// state adds a state, and returns it.
func (b *builder) state() int {
	b.States++
	return b.States - 1
}

// arc adds an arc.
func (b *builder) arc(from, in, out, to int) {
	b.Arcs = append(b.Arcs, api.Arc{From: from, In: in, Out: out, To: to})
}

// follow adds an arc to a new state, and returns this.
func (b *builder) follow(from, in, out int) int {
	to := b.state()
	b.arc(from, in, out, to)
	return to
}

// end makes states final, which are greater than those that are final already, and increase.
func (b *builder) end(states ...int) {
	b.Final = append(b.Final, states...)
}

// include adds the states and arcs of a transducer, and returns its start, and the states that are final in it.
func (b *builder) include(f api.Fst) (int, []int) {
	f = usable(f)
	first := b.States
	b.States += f.States
	for _, a := range f.Arcs {
		b.arc(first+a.From, a.In, a.Out, first+a.To)
	}
	var ends []int
	for _, state := range f.Final {
		ends = append(ends, first+state)
	}
	return first, ends
}

// product is built of the pairs of a state of left and one of right: what left writes, right reads.
type product struct {
	builder
	left, right api.Fst
}

func newProduct(left, right api.Fst) product {
	p := product{left: usable(left), right: usable(right)}
	p.States = p.left.States * p.right.States
	return p
}

// fits reports whether a product is within the limits of Compose.
func (p *product) fits() bool {
	arcs := len(p.left.Arcs)*len(p.right.Arcs) + len(p.left.Arcs)*p.right.States + p.left.States*len(p.right.Arcs)
	return p.States <= maxStates && arcs <= maxComposed
}

// pair returns the state of a pair of states; it increases with the first one, and then with the second one.
func (p *product) pair(left, right int) int {
	return left*p.right.States + right
}

// addShared adds the arcs that follow one of both transducers, where one writes what the other one reads.
func (p *product) addShared() {
	for _, x := range p.left.Arcs {
		for _, y := range p.right.Arcs {
			if x.Out != 0 && x.Out == y.In {
				p.arc(p.pair(x.From, y.From), x.In, y.Out, p.pair(x.To, y.To))
			}
		}
	}
}

// addLeft adds the arcs that follow one of left that writes nothing, while right stays where it is.
func (p *product) addLeft() {
	for _, x := range p.left.Arcs {
		if x.Out != 0 {
			continue
		}
		for right := range p.right.States {
			p.arc(p.pair(x.From, right), x.In, 0, p.pair(x.To, right))
		}
	}
}

// addRight adds the arcs that follow one of right that reads nothing, while left stays where it is.
func (p *product) addRight() {
	for _, y := range p.right.Arcs {
		if y.In != 0 {
			continue
		}
		for left := range p.left.States {
			p.arc(p.pair(left, y.From), 0, y.Out, p.pair(left, y.To))
		}
	}
}

// addEnds makes the pairs of final states final.
func (p *product) addEnds() {
	for _, left := range p.left.Final {
		for _, right := range p.right.Final {
			p.end(p.pair(left, right))
		}
	}
}
