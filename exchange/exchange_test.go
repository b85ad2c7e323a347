package exchange_test

import (
	"math"
	"math/rand"
	"slices"
	"testing"

	"langdoc/api"
	"langdoc/clock"
	"langdoc/exchange"
	"langdoc/ops"
	"langdoc/replica"
	"langdoc/sample"
)

// The operations of the tests, and the replica of a device with some.
var stamp, add, set, drop, of = sample.Stamp, sample.Add, sample.Set, sample.Drop, sample.Replica

// known returns right operations of the devices 1 to 3, by increasing stamps.
func known() []api.Op {
	return []api.Op{
		add(stamp(1, 1), 5, api.Note{Text: "mi"}), add(stamp(1, 2), 5, api.Note{Text: "ba"}), set(stamp(2, 1), 5, 17, api.FieldText, 0, "me", stamp(1, 1)), set(stamp(2, 3), 5, 17, api.FieldText, 0, "ma", stamp(1, 1)), drop(stamp(3, 1), 5, 18, stamp(1, 2)), set(stamp(3, 2), 5, 17, api.FieldText, 0, "mo", stamp(2, 1), stamp(2, 3)),
	}
}

// picked returns the operations of known with these indices, in this order.
func picked(indices ...int) []api.Op {
	var l []api.Op
	for _, i := range indices {
		l = append(l, known()[i])
	}
	return l
}

func same(a, b []api.Op) bool { return slices.EqualFunc(a, b, ops.Same) }

// P51.1
func TestMissing(t *testing.T) {
	r := of(2, known()...)
	for i, c := range []struct {
		seen []int
		most int
		want []int
	}{
		{nil, 9, []int{0, 1, 2, 3, 4, 5}}, {nil, 6, []int{0, 1, 2, 3, 4, 5}}, {nil, 5, []int{0, 1, 2, 3, 4}}, {nil, 1, []int{0}}, {nil, 0, nil}, {nil, -1, nil}, {nil, math.MinInt, nil}, {nil, math.MaxInt, []int{0, 1, 2, 3, 4, 5}},
		{[]int{1}, 9, []int{1, 2, 3, 4, 5}}, {[]int{2, 1}, 9, []int{3, 4, 5}}, {[]int{2, 1}, 2, []int{3, 4}}, {[]int{0, 9}, 9, []int{0, 2, 3, 4}}, {[]int{0, 9}, 3, []int{0, 2, 3}}, {[]int{3, 3, 2}, 9, nil}, {[]int{2, 2, 1}, 9, []int{3, 4, 5}}, {[]int{0, 0, 9}, 9, []int{0, 1, 2, 4, 5}},
		// Vectors of any kind.
		{[]int{-5, -1, -9}, 9, []int{0, 1, 2, 3, 4, 5}}, {make([]int, 40), 2, []int{0, 1}}, {[]int{math.MaxInt, math.MinInt, math.MaxInt}, 9, []int{1, 5}}, {append(make([]int, 15), 9, 9, 9), 1, []int{0}},
	} {
		if l := exchange.Missing(r, c.seen, c.most); !same(l, picked(c.want...)) {
			t.Errorf("%d: Missing: %v", i, l)
		}
	}
	if l := exchange.Missing(of(1), nil, 9); len(l) != 0 {
		t.Error("Missing of nothing:", l)
	}
	if l := exchange.Missing(r, r.Seen, 9); len(l) != 0 {
		t.Error("Missing of what was seen:", l)
	}
}

// P51.2
func TestMerge(t *testing.T) {
	empty := known()[1]
	empty.Over = []api.Stamp{}
	for i, c := range []struct {
		has  []int
		l    []api.Op
		want []int
	}{
		{nil, nil, nil}, {nil, known(), []int{0, 1, 2, 3, 4, 5}}, {nil, picked(5, 4, 3, 2, 1, 0), []int{0, 1, 2, 3, 4, 5}}, {[]int{0, 1, 2, 3, 4, 5}, nil, []int{0, 1, 2, 3, 4, 5}}, {[]int{0, 1, 2, 3, 4, 5}, known(), []int{0, 1, 2, 3, 4, 5}}, {[]int{0, 1}, picked(2), []int{0, 1, 2}}, {[]int{1, 4}, picked(0), []int{0, 1, 4}}, {[]int{0, 2, 3, 5}, picked(4, 1), []int{0, 1, 2, 3, 4, 5}}, {[]int{0, 2}, picked(3, 0, 5, 3, 5, 2), []int{0, 2, 3, 5}}, {nil, picked(3, 0, 0, 3, 3), []int{0, 3}}, {[]int{1}, []api.Op{empty}, []int{1}}, {nil, []api.Op{empty, known()[1]}, []int{1}},
	} {
		r, err := exchange.Merge(of(15, picked(c.has...)...), c.l)
		if err != api.OK || !replica.Same(r, of(15, picked(c.want...)...)) {
			t.Errorf("%d: Merge: %v, %d", i, r, err)
		}
	}
	// The greatest counter of each device was seen.
	r, err := exchange.Merge(of(4, picked(0, 1)...), picked(2, 5, 3))
	if err != api.OK || !slices.Equal(r.Seen, clock.Join([]int{2, 3, 2}, nil)) || r.Dev != 4 {
		t.Error(r, err)
	}
}

// adds returns n operations of the device 1 that add notes.
func adds(n int) []api.Op {
	var l []api.Op
	for i := range n {
		l = append(l, add(stamp(i+1, 1), 1, api.Note{}))
	}
	return l
}

// changed returns an operation of known with a change.
func changed(i int, turn func(o *api.Op)) api.Op {
	o := known()[i]
	turn(&o)
	return o
}

// P51.2, and the examples of the chapter.
func TestMergeErrors(t *testing.T) {
	text, rec := changed(0, func(o *api.Op) { o.Note.Text = "" }), changed(0, func(o *api.Op) { o.Rec = 0 })
	late := changed(2, func(o *api.Op) { o.At = stamp(api.MaxCount+1, 1) })
	for i, c := range []struct {
		has []int
		l   []api.Op
		err api.Errno
	}{
		// Different operations with a stamp, in both or in one of them, also such as are not right.
		{[]int{0}, []api.Op{text}, api.ErrTwice}, {[]int{0, 1}, []api.Op{known()[1], rec}, api.ErrTwice}, {nil, []api.Op{text, known()[0]}, api.ErrTwice}, {nil, []api.Op{known()[0], text, known()[0]}, api.ErrTwice}, {[]int{0}, []api.Op{known()[0], text}, api.ErrTwice}, {nil, []api.Op{{}, {Rec: 1}}, api.ErrTwice}, {nil, []api.Op{late, changed(2, func(o *api.Op) { o.At, o.N = late.At, 1 })}, api.ErrTwice}, {[]int{0}, []api.Op{{}, known()[4], text}, api.ErrTwice}, {[]int{0, 2}, []api.Op{changed(2, func(o *api.Op) { o.Over = []api.Stamp{stamp(1, 3)} })}, api.ErrTwice}, {[]int{0, 2}, []api.Op{changed(2, func(o *api.Op) { o.Over = nil })}, api.ErrTwice}, {nil, append(adds(api.MaxOps+1), text), api.ErrTwice},
		// The error of the result.
		{nil, []api.Op{{}}, api.ErrStamp}, {nil, []api.Op{{}, {}}, api.ErrStamp}, {[]int{0}, []api.Op{late}, api.ErrStamp}, {nil, []api.Op{rec}, api.ErrRange}, {[]int{0, 1}, []api.Op{changed(2, func(o *api.Op) { o.Kind = 7 })}, api.ErrKind}, {nil, picked(2), api.ErrNone}, {nil, picked(1, 2, 3, 4, 5), api.ErrNone}, {[]int{0}, picked(4), api.ErrNone}, {[]int{0, 2}, picked(5), api.ErrStamp}, {[]int{0, 2}, picked(5, 3), api.OK}, {[]int{0}, []api.Op{known()[1], changed(4, func(o *api.Op) { o.Rec = 6 })}, api.ErrNone}, {nil, []api.Op{changed(1, func(o *api.Op) { o.Rec = 0 }), {}}, api.ErrStamp}, {nil, []api.Op{rec, changed(1, func(o *api.Op) { o.Kind = 7 })}, api.ErrRange},
		{nil, adds(api.MaxOps), api.OK}, {nil, adds(api.MaxOps + 1), api.ErrFull}, {[]int{1}, adds(api.MaxOps), api.ErrFull}, {[]int{1}, append(adds(api.MaxOps-1), adds(9)...), api.OK}, {nil, append(adds(api.MaxOps), api.Op{}), api.ErrFull},
	} {
		r, err := exchange.Merge(of(1, picked(c.has...)...), c.l)
		if err != c.err || err != api.OK && !replica.Same(r, api.Replica{}) || err == api.OK && replica.Check(r) != api.OK {
			t.Errorf("%d: Merge: %d operations, %d, want %d", i, len(r.Ops), err, c.err)
		}
	}
}

// P51.3, P51.4, and the examples of the chapter.
func TestSyncAndAgree(t *testing.T) {
	for i, c := range []struct {
		a, b, both       []int
		behind, backward int
	}{
		{nil, nil, nil, 0, 0}, {[]int{0, 1, 2, 3, 4, 5}, nil, []int{0, 1, 2, 3, 4, 5}, 0, 6}, {nil, []int{0, 1}, []int{0, 1}, 2, 0}, {[]int{0, 2}, []int{1, 4}, []int{0, 1, 2, 4}, 2, 2}, {[]int{0, 1, 2}, []int{0, 1, 3, 4}, []int{0, 1, 2, 3, 4}, 2, 1}, {[]int{0, 1, 2, 3, 5}, []int{0, 1, 2, 3, 4, 5}, []int{0, 1, 2, 3, 4, 5}, 1, 0}, {[]int{0, 3}, []int{0, 3}, []int{0, 3}, 0, 0},
	} {
		a, b := of(7, picked(c.a...)...), of(2, picked(c.b...)...)
		if n, m := exchange.Behind(a, b), exchange.Behind(b, a); n != c.behind || m != c.backward {
			t.Errorf("%d: Behind: %d, %d", i, n, m)
		}
		if exchange.Agree(a, b) != (c.behind+c.backward == 0) || exchange.Agree(b, a) != exchange.Agree(a, b) || !exchange.Agree(a, a) {
			t.Errorf("%d: Agree", i)
		}
		x, y, err := exchange.Sync(a, b)
		if err != api.OK || !replica.Same(x, of(7, picked(c.both...)...)) || !replica.Same(y, of(2, picked(c.both...)...)) || !exchange.Agree(x, y) {
			t.Errorf("%d: Sync: %v, %v, %d", i, x, y, err)
		}
	}
	one := changed(0, func(o *api.Op) { o.Note.Text = "x" })
	for i, c := range []struct {
		a, b api.Replica
		err  api.Errno
	}{
		{of(1, known()...), of(2, one), api.ErrTwice}, {of(1, known()[0]), of(1, one), api.ErrTwice}, {of(1, adds(api.MaxOps)...), of(2, known()[1]), api.ErrFull}, {of(1, adds(api.MaxOps-1)...), of(2, picked(1)[0], add(stamp(2, 2), 5, api.Note{})), api.ErrFull}, {of(1, adds(api.MaxOps)...), of(2, one), api.ErrTwice}, {of(1, adds(api.MaxOps-1)...), of(2, known()[1]), api.OK},
	} {
		x, y, err := exchange.Sync(c.a, c.b)
		if err != c.err || err != api.OK && (!replica.Same(x, c.a) || !replica.Same(y, c.b)) {
			t.Errorf("%d: Sync: %d and %d operations, %d, want %d", i, len(x.Ops), len(y.Ops), err, c.err)
		}
	}
	// Operations with one stamp that differ are not had by the other replica.
	if a, b := of(1, known()[0]), of(1, one); exchange.Behind(a, b) != 1 || exchange.Behind(b, a) != 1 || exchange.Agree(a, b) {
		t.Error("different operations with one stamp")
	}
}

// P51.3, and the example of the chapter: the operations of all three reach the third one.
func TestThreeDevices(t *testing.T) {
	_, b, err := exchange.Sync(of(1, picked(0)...), of(2, picked(1)...))
	_, c, also := exchange.Sync(b, of(3, picked(0, 3)...))
	if err != api.OK || also != api.OK || !replica.Same(c, of(3, picked(0, 1, 3)...)) {
		t.Error(c, err, also)
	}
}

// P51.4: it follows the definition also where replicas have been restored in other ways than by exchange.
func TestAgreeWhateverTheDevices(t *testing.T) {
	for dev := 1; dev <= api.MaxDevs; dev++ {
		a, b := of(3, known()...), of(dev, known()...)
		if !exchange.Agree(a, b) || exchange.Agree(a, of(dev, known()[:5]...)) || exchange.Agree(of(dev), b) {
			t.Error(dev)
		}
	}
}

// devices returns four devices that have changed notes and sometimes met.
func devices(random *rand.Rand, changes int) []api.Replica {
	var l []api.Replica
	for i := range 4 {
		r, _ := replica.New(2*i + 3)
		l = append(l, r)
	}
	for range changes {
		i, j := random.Intn(4), random.Intn(4)
		if random.Intn(6) == 0 && i != j {
			l[i], l[j], _ = exchange.Sync(l[i], l[j])
		} else {
			l[i] = sample.Change(random.Intn, l[i])
		}
	}
	return l
}

// union returns the replica that has the operations of all, from the definition.
func union(dev int, all ...api.Replica) api.Replica {
	found := map[api.Stamp]api.Op{}
	for _, r := range all {
		for _, o := range r.Ops {
			found[o.At] = o
		}
	}
	var l []api.Op
	for count := range api.MaxOps {
		for dev := range api.MaxDevs {
			if o, ok := found[stamp(count+1, dev+1)]; ok {
				l = append(l, o)
			}
		}
	}
	return of(dev, l...)
}

// sameCells reports whether two replicas have the same cells.
func sameCells(a, b api.Replica) bool {
	for rec := range 7 {
		if !slices.EqualFunc(replica.Cells(a, rec), replica.Cells(b, rec), func(c, d api.Cell) bool {
			return c.Rec == d.Rec && c.Note == d.Note && slices.Equal(c.Text, d.Text) && slices.Equal(c.From, d.From) && slices.Equal(c.To, d.To)
		}) {
			return false
		}
	}
	return true
}

// P51.2 to P51.5: the result of many exchanges does not depend on their order.
func TestConvergence(t *testing.T) {
	random := rand.New(rand.NewSource(51))
	differ := 0
	for range 300 {
		l := devices(random, 60)
		a, b := l[0], l[1]
		x, y, err := exchange.Sync(a, b)
		if err != api.OK || !exchange.Agree(x, y) || !sameCells(x, y) || !replica.Same(x, union(a.Dev, a, b)) || !replica.Same(y, union(b.Dev, a, b)) || replica.Check(x) != api.OK {
			t.Fatalf("Sync of %v and %v: %v, %v, %d", a, b, x, y, err)
		}
		if exchange.Behind(x, a)+exchange.Behind(x, b) != 0 || exchange.Behind(a, b) != len(x.Ops)-len(a.Ops) {
			t.Fatalf("Behind of %v and %v", a, b)
		}
		if !exchange.Agree(a, b) {
			differ++
		}
		// The order of what is merged, and repetitions, do not matter.
		mixed := slices.Concat(b.Ops, a.Ops, b.Ops)
		random.Shuffle(len(mixed), func(i, j int) { mixed[i], mixed[j] = mixed[j], mixed[i] })
		if m, err := exchange.Merge(a, mixed); err != api.OK || !replica.Same(m, x) {
			t.Fatalf("Merge of %v into %v: %v, %d", mixed, a, m, err)
		}
		if m, err := exchange.Merge(x, mixed); err != api.OK || !replica.Same(m, x) {
			t.Fatalf("Merge of the same operations again: %v, %d", m, err)
		}
		// One after the other is as all at once.
		at := random.Perm(4)
		one, all := l[at[0]], l[at[0]].Ops
		for _, i := range at[1:] {
			one, _ = exchange.Merge(one, l[i].Ops)
			all = slices.Concat(l[i].Ops, all)
		}
		if m, err := exchange.Merge(l[at[0]], all); err != api.OK || !replica.Same(m, one) || !replica.Same(m, union(one.Dev, l...)) {
			t.Fatalf("%v after %v: %v, %d", one, l, m, err)
		}
	}
	if differ < 200 {
		t.Error("only", differ, "devices that did not agree")
	}
}

// P51.1, P51.5: consistent replicas agree when they have exchanged what was missing in parts of any sizes.
func TestExchangeInParts(t *testing.T) {
	random := rand.New(rand.NewSource(52))
	for range 100 {
		l := devices(random, 60)
		want := union(1, l...)
		for range 200 {
			i, j, most := random.Intn(4), random.Intn(4), 1+random.Intn(9)
			part := exchange.Missing(l[i], l[j].Seen, most)
			all := exchange.Missing(l[i], l[j].Seen, api.MaxOps)
			if len(part) != min(most, len(all)) || !same(part, all[:len(part)]) || len(all) != exchange.Behind(l[j], l[i]) {
				t.Fatalf("Missing of %v and %v: %v", l[i], l[j], part)
			}
			next, err := exchange.Merge(l[j], part)
			if err != api.OK || len(next.Ops) != len(l[j].Ops)+len(part) {
				t.Fatalf("Merge of %v into %v: %v, %d", part, l[j], next, err)
			}
			l[j] = next
		}
		for i := range l {
			for j := range l {
				l[j], _ = exchange.Merge(l[j], exchange.Missing(l[i], l[j].Seen, api.MaxOps))
			}
		}
		for _, r := range l[1:] {
			if !exchange.Agree(r, l[3]) || !exchange.Agree(r, want) {
				t.Fatalf("%v, want the operations of %v", r, want)
			}
		}
	}
}

// R5: results are new memory, and arguments stay as they are.
func TestMemory(t *testing.T) {
	a, b, l := of(1, picked(0, 2)...), of(2, picked(0, 1, 3, 4)...), picked(5, 4, 3, 1)
	other := of(3, changed(0, func(o *api.Op) { o.Rec = 9 }))
	wipe := func(r api.Replica) {
		for _, o := range r.Ops {
			clear(o.Over)
		}
		clear(r.Ops)
		clear(r.Seen)
	}
	for i, call := range []func(){
		func() { r, _ := exchange.Merge(a, l); wipe(r) }, func() { r, _ := exchange.Merge(a, nil); wipe(r) }, func() { x, y, _ := exchange.Sync(a, b); wipe(x); wipe(y) }, func() { x, y, _ := exchange.Sync(a, other); wipe(x); wipe(y) }, func() { wipe(api.Replica{Ops: exchange.Missing(b, nil, 9)}) }, func() { exchange.Agree(a, b) },
	} {
		call()
		if !replica.Same(a, of(1, picked(0, 2)...)) || !replica.Same(b, of(2, picked(0, 1, 3, 4)...)) || !same(l, picked(5, 4, 3, 1)) || other.Ops[0].Rec != 9 {
			t.Fatal("call", i, a, b, l)
		}
	}
}

// The functions end for replicas that are not right, too.
func TestReplicasThatAreNotRight(t *testing.T) {
	odd := []api.Replica{{}, {Dev: 99, Seen: []int{math.MaxInt, -1}}, {Dev: 1, Ops: []api.Op{known()[3], {}, known()[0], known()[3], {Kind: 9}}}}
	for _, a := range odd {
		for _, b := range odd {
			exchange.Sync(a, b)
			exchange.Agree(a, b)
			exchange.Behind(a, b)
			exchange.Merge(a, b.Ops)
			exchange.Missing(a, b.Seen, 2)
		}
	}
}
