package replica_test

import (
	"math"
	"math/rand"
	"slices"
	"strings"
	"testing"

	"langdoc/api"
	"langdoc/clock"
	"langdoc/ops"
	"langdoc/replica"
	"langdoc/sample"
)

// The operations of the tests, and the replica of a device with some.
var stamp, add, set, drop, of = sample.Stamp, sample.Add, sample.Set, sample.Drop, sample.Replica

// The notes of known.
const (
	mi = 16*1 + 1 // has two texts
	ba = 16*1 + 2 // is dropped, but lives, because it was moved
	tu = 16*2 + 1 // is dropped
	na = 16*4 + 3 // as it was added
)

// known returns a right replica of the device 3.
func known() api.Replica {
	return of(3,
		add(stamp(1, 1), 5, api.Note{Id: mi, Tier: 1, Parent: 9, Span: api.Span{From: 2, To: 8}, Rank: 3, Text: "mi"}),
		add(stamp(1, 2), 5, api.Note{Id: ba, Span: api.Span{From: 1, To: 4}, Text: "ba"}),
		add(stamp(2, 1), 6, api.Note{Id: tu, Text: "tu"}),
		set(stamp(2, 2), 5, mi, api.FieldText, 0, "ma", stamp(1, 1)),
		set(stamp(3, 1), 5, mi, api.FieldText, 0, "me", stamp(1, 1)),
		set(stamp(3, 2), 5, ba, api.FieldFrom, 3, "", stamp(1, 2)),
		drop(stamp(3, 3), 5, ba, stamp(1, 2)),
		add(stamp(4, 3), 5, api.Note{}),
		drop(stamp(5, 1), 6, tu, stamp(2, 1)),
		set(stamp(5, 2), 5, mi, api.FieldTo, 7, "", stamp(1, 1)),
	)
}

// cells returns the cells of the recording 5 in known.
func cells() []api.Cell {
	return []api.Cell{
		{Rec: 5, Note: api.Note{Id: mi, Tier: 1, Parent: 9, Span: api.Span{From: 2, To: 8}, Rank: 3, Text: "mi"}, Text: []api.Value{{At: stamp(2, 2), Text: "ma"}, {At: stamp(3, 1), Text: "me"}}, From: []api.Value{{At: stamp(1, 1), N: 2}}, To: []api.Value{{At: stamp(5, 2), N: 7}}},
		{Rec: 5, Note: api.Note{Id: ba, Span: api.Span{From: 1, To: 4}, Text: "ba"}, Text: []api.Value{{At: stamp(1, 2), Text: "ba"}}, From: []api.Value{{At: stamp(3, 2), N: 3}}, To: []api.Value{{At: stamp(1, 2), N: 4}}},
		{Rec: 5, Note: api.Note{Id: na}, Text: []api.Value{{At: stamp(4, 3)}}, From: []api.Value{{At: stamp(4, 3)}}, To: []api.Value{{At: stamp(4, 3)}}},
	}
}

func sameCell(a, b api.Cell) bool {
	return a.Rec == b.Rec && a.Note == b.Note && slices.Equal(a.Text, b.Text) && slices.Equal(a.From, b.From) && slices.Equal(a.To, b.To)
}

// P50.1
func TestNew(t *testing.T) {
	for dev := 1; dev <= api.MaxDevs; dev++ {
		if r, err := replica.New(dev); err != api.OK || !replica.Same(r, of(dev)) || replica.Check(r) != api.OK {
			t.Errorf("New of %d: %v, %d", dev, r, err)
		}
	}
	for _, dev := range []int{0, -1, api.MaxDevs + 1, math.MinInt, math.MaxInt} {
		if r, err := replica.New(dev); err != api.ErrArg || !replica.Same(r, api.Replica{}) {
			t.Errorf("New of %d: %v, %d", dev, r, err)
		}
	}
}

// adds returns n operations of the device 1 that add notes.
func adds(n int) []api.Op {
	var l []api.Op
	for i := range n {
		l = append(l, add(stamp(i+1, 1), 1, api.Note{}))
	}
	return l
}

// P50.2
func TestCheck(t *testing.T) {
	for i, r := range []api.Replica{known(), of(1), of(15), of(1, adds(api.MaxOps)...), of(9, adds(1)...)} {
		if err := replica.Check(r); err != api.OK {
			t.Error("right replica", i, err)
		}
	}
	for i, c := range []struct {
		err  api.Errno
		turn func(r *api.Replica)
	}{
		// The device, and the number of operations.
		{api.ErrArg, func(r *api.Replica) { r.Dev, r.Ops = 0, adds(api.MaxOps+1) }}, {api.ErrArg, func(r *api.Replica) { r.Dev = api.MaxDevs + 1 }}, {api.ErrArg, func(r *api.Replica) { r.Dev = math.MinInt }}, {api.ErrFull, func(r *api.Replica) { r.Ops = make([]api.Op, api.MaxOps+1) }}, {api.ErrFull, func(r *api.Replica) { *r = of(1, adds(api.MaxOps+1)...) }}, {api.ErrStamp, func(r *api.Replica) { r.Ops = make([]api.Op, api.MaxOps) }}, {api.OK, func(r *api.Replica) { r.Dev = 15 }},
		// An operation by itself.
		{api.ErrStamp, func(r *api.Replica) { r.Ops[9].At = stamp(0, 2); r.Seen = nil }}, {api.ErrKind, func(r *api.Replica) { r.Ops[3].Kind = 3 }}, {api.ErrRange, func(r *api.Replica) { r.Ops[0].Rec = 0; r.Ops[1].Kind = 9 }}, {api.ErrArg, func(r *api.Replica) { r.Ops[7].Note.Id++ }}, {api.ErrForm, func(r *api.Replica) { r.Ops[3].Text = "\n" }}, {api.ErrShort, func(r *api.Replica) { r.Ops[8].Over = nil }}, {api.ErrOrder, func(r *api.Replica) { r.Ops[9].Over = []api.Stamp{stamp(2, 2), stamp(1, 1)} }},
		// The order; the operation's own error comes before it.
		{api.ErrOrder, func(r *api.Replica) { r.Ops[1] = r.Ops[0] }}, {api.ErrOrder, func(r *api.Replica) { r.Ops[0], r.Ops[1] = r.Ops[1], r.Ops[0] }}, {api.ErrOrder, func(r *api.Replica) { r.Ops[8].At = stamp(4, 3) }}, {api.ErrOrder, func(r *api.Replica) { r.Ops[8].At, r.Ops[8].Rec = stamp(4, 2), 5 }}, {api.ErrKind, func(r *api.Replica) { r.Ops[1] = r.Ops[0]; r.Ops[1].Kind = -1 }}, {api.ErrKind, func(r *api.Replica) { r.Ops[1].Kind = -1; r.Ops[3] = r.Ops[2] }},
		// No operation that adds the note, or one of another recording, or not before it.
		{api.ErrNone, func(r *api.Replica) { r.Ops[3].Note.Id = 16 + 3 }}, {api.ErrNone, func(r *api.Replica) { r.Ops[3].Rec = 6 }}, {api.ErrNone, func(r *api.Replica) { r.Ops[8].Rec = 5 }}, {api.ErrNone, func(r *api.Replica) { r.Ops[9] = drop(stamp(5, 2), 5, 16*3+1, stamp(3, 1)) }}, {api.ErrNone, func(r *api.Replica) { r.Ops = r.Ops[1:] }}, {api.ErrNone, func(r *api.Replica) { r.Ops[8].Rec, r.Ops[8].Over = 5, []api.Stamp{stamp(1, 9)} }},
		// What an operation replaces.
		{api.ErrStamp, func(r *api.Replica) { r.Ops[3].Over[0] = stamp(1, 2) }}, {api.ErrStamp, func(r *api.Replica) { r.Ops[3].Over[0] = stamp(1, 3) }}, {api.ErrStamp, func(r *api.Replica) { r.Ops[9].Over[0] = stamp(2, 2) }}, {api.ErrStamp, func(r *api.Replica) { r.Ops[9].Over = []api.Stamp{stamp(1, 1), stamp(3, 1)} }}, {api.ErrStamp, func(r *api.Replica) { r.Ops[8].Over = []api.Stamp{stamp(1, 1), stamp(2, 1)} }}, {api.ErrStamp, func(r *api.Replica) { r.Ops[9].Over = []api.Stamp{stamp(1, 1), stamp(5, 1)} }}, {api.ErrStamp, func(r *api.Replica) { r.Ops[3].Over[0] = stamp(1, 2); r.Ops[8].Rec = 5 }},
		{api.OK, func(r *api.Replica) {
			r.Ops[9] = set(stamp(5, 2), 5, mi, api.FieldText, 0, "", stamp(1, 1), stamp(2, 2), stamp(3, 1))
		}}, {api.OK, func(r *api.Replica) { r.Ops[9] = drop(stamp(5, 2), 5, mi, stamp(1, 1), stamp(2, 2), stamp(3, 1)) }}, {api.OK, func(r *api.Replica) { r.Ops[9] = drop(stamp(5, 2), 5, ba, stamp(3, 2)) }}, {api.ErrStamp, func(r *api.Replica) { r.Ops[9] = drop(stamp(5, 2), 5, ba, stamp(3, 3)) }}, {api.ErrStamp, func(r *api.Replica) { r.Ops[9] = drop(stamp(5, 2), 5, ba, stamp(3, 1)) }}, {api.ErrStamp, func(r *api.Replica) { r.Ops[9] = set(stamp(5, 2), 5, ba, api.FieldTo, 1, "", stamp(3, 2)) }}, {api.ErrStamp, func(r *api.Replica) { r.Ops[9] = set(stamp(5, 2), 5, ba, api.FieldText, 0, "", stamp(3, 3)) }},
		// What was seen, after all operations.
		{api.ErrArg, func(r *api.Replica) { r.Seen = nil }}, {api.ErrArg, func(r *api.Replica) { r.Seen = r.Seen[:14] }}, {api.ErrArg, func(r *api.Replica) { r.Seen = append(r.Seen, 0) }}, {api.ErrArg, func(r *api.Replica) { r.Seen[0]++ }}, {api.ErrArg, func(r *api.Replica) { r.Seen[1]-- }}, {api.ErrArg, func(r *api.Replica) { r.Seen[14] = -1 }}, {api.ErrArg, func(r *api.Replica) { r.Seen[3] = 1 }}, {api.ErrNone, func(r *api.Replica) { r.Seen, r.Ops[8].Rec = nil, 5 }}, {api.ErrArg, func(r *api.Replica) { r.Ops = r.Ops[:9] }}, {api.ErrArg, func(r *api.Replica) { r.Ops = nil }},
	} {
		r := known()
		c.turn(&r)
		if err := replica.Check(r); err != c.err {
			t.Errorf("change %d: %d, want %d", i, err, c.err)
		}
	}
	if err := replica.Check(api.Replica{}); err != api.ErrArg {
		t.Error("the zero replica:", err)
	}
}

// P50.3
func TestCellsAndCell(t *testing.T) {
	if l := replica.Cells(known(), 5); !slices.EqualFunc(l, cells(), sameCell) {
		t.Errorf("Cells: %v", l)
	}
	for _, rec := range []int{6, 0, 1, -1, math.MaxInt} {
		if l := replica.Cells(known(), rec); len(l) != 0 {
			t.Errorf("Cells of %d: %v", rec, l)
		}
	}
	for _, want := range cells() {
		if c, ok := replica.Cell(known(), want.Note.Id); !ok || !sameCell(c, want) {
			t.Errorf("Cell of %d: %v, %t", want.Note.Id, c, ok)
		}
	}
	for _, note := range []int{tu, 0, -1, 16*3 + 1, 16*3 + 3, math.MinInt, math.MaxInt} {
		if c, ok := replica.Cell(known(), note); ok || !sameCell(c, api.Cell{}) {
			t.Errorf("Cell of %d: %v, %t", note, c, ok)
		}
	}
	// A note lives as long as the deleters did not know all that wrote it, and a value that lives is in no field any more if others replaced it.
	a, b := add(stamp(1, 1), 1, api.Note{Text: "a"}), set(stamp(2, 1), 1, 17, api.FieldText, 0, "b", stamp(1, 1))
	for i, c := range []struct {
		l     []api.Op
		texts []string
	}{
		{[]api.Op{a, drop(stamp(2, 2), 1, 17, stamp(1, 1))}, nil}, {[]api.Op{a, b, drop(stamp(3, 2), 1, 17, stamp(2, 1))}, []string{"b"}}, {[]api.Op{a, b, drop(stamp(3, 2), 1, 17, stamp(1, 1))}, []string{"b"}}, {[]api.Op{a, b, drop(stamp(3, 2), 1, 17, stamp(1, 1), stamp(2, 1))}, nil}, {[]api.Op{a, b, drop(stamp(3, 1), 1, 17, stamp(1, 1)), drop(stamp(3, 2), 1, 17, stamp(2, 1))}, nil}, {[]api.Op{a, b, drop(stamp(3, 1), 1, 17, stamp(2, 1)), drop(stamp(3, 2), 1, 17, stamp(2, 1))}, []string{"b"}},
		{[]api.Op{a, drop(stamp(2, 2), 1, 17, stamp(1, 1)), set(stamp(3, 1), 1, 17, api.FieldText, 0, "c", stamp(1, 1))}, []string{"c"}}, {[]api.Op{a, drop(stamp(2, 2), 1, 17, stamp(1, 1)), set(stamp(3, 1), 1, 17, api.FieldTo, 3, "", stamp(1, 1))}, []string{"a"}}, {[]api.Op{a, drop(stamp(2, 2), 1, 17, stamp(1, 1)), set(stamp(3, 1), 1, 17, api.FieldTo, 3, "", stamp(1, 1)), drop(stamp(4, 3), 1, 17, stamp(3, 1))}, nil},
		// Values that replace another value, but not one another.
		{[]api.Op{a, b, set(stamp(2, 2), 1, 17, api.FieldText, 0, "c", stamp(1, 1)), set(stamp(2, 3), 1, 17, api.FieldText, 0, "d", stamp(1, 1))}, []string{"b", "c", "d"}}, {[]api.Op{a, b, set(stamp(2, 2), 1, 17, api.FieldText, 0, "c", stamp(1, 1)), set(stamp(3, 3), 1, 17, api.FieldText, 0, "d", stamp(2, 1))}, []string{"c", "d"}},
		// The first value is not replaced by one that does not name it.
		{[]api.Op{a, b, set(stamp(3, 1), 1, 17, api.FieldText, 0, "c", stamp(2, 1)), set(stamp(4, 2), 1, 17, api.FieldText, 0, "b", stamp(2, 1))}, []string{"c", "b"}},
	} {
		r := of(1, c.l...)
		cell, ok := replica.Cell(r, 17)
		var texts []string
		for _, v := range cell.Text {
			texts = append(texts, v.Text)
		}
		if ok != (len(c.texts) > 0) || !slices.Equal(texts, c.texts) || len(replica.Cells(r, 1)) != min(1, len(texts)) || replica.Check(r) != api.OK {
			t.Errorf("%d: %v, %t", i, cell, ok)
		}
	}
}

// P50.4
func TestCurrent(t *testing.T) {
	n := api.Note{Id: 7, Tier: 2, Parent: 3, Span: api.Span{From: 5, To: 6}, Rank: 1, Text: "n"}
	text, from, to := []api.Value{{At: stamp(9, 9), Text: "a"}, {At: stamp(1, 1), Text: "b", N: 4}}, []api.Value{{N: 3, Text: "x"}}, []api.Value{{N: 9}, {N: 0}}
	with := func(text string, from, to int) api.Note {
		m := n
		m.Text, m.Span = text, api.Span{From: from, To: to}
		return m
	}
	for i, c := range []struct {
		c    api.Cell
		want api.Note
	}{
		{cells()[0], api.Note{Id: mi, Tier: 1, Parent: 9, Span: api.Span{From: 2, To: 7}, Rank: 3, Text: "me"}}, {cells()[1], api.Note{Id: ba, Span: api.Span{From: 3, To: 4}, Text: "ba"}}, {cells()[2], api.Note{Id: na}},
		{api.Cell{}, api.Note{}}, {api.Cell{Rec: 8, Note: n}, n}, {api.Cell{Note: n, Text: text}, with("b", 5, 6)}, {api.Cell{Note: n, From: from}, with("n", 3, 6)}, {api.Cell{Note: n, To: to}, with("n", 5, 0)}, {api.Cell{Note: n, Text: text[:1], From: from, To: to[:1]}, with("a", 3, 9)}, {api.Cell{Note: n, Text: []api.Value{{}}}, with("", 5, 6)},
	} {
		if got := replica.Current(c.c); got != c.want {
			t.Errorf("%d: Current: %v, want %v", i, got, c.want)
		}
	}
}

// P50.5
func TestAdd(t *testing.T) {
	n := api.Note{Id: -5, Tier: 2, Parent: 77, Span: api.Span{From: 1, To: 2}, Rank: 4, Text: "new"}
	want := known()
	want = of(3, append(want.Ops, add(stamp(6, 3), 8, n))...)
	if r, id, err := replica.Add(known(), 8, n); err != api.OK || id != 16*6+3 || !replica.Same(r, want) {
		t.Errorf("Add: %v, %d, %d", r, id, err)
	}
	if r, id, err := replica.Add(of(15), api.MaxNum, api.Note{}); err != api.OK || id != 31 || !replica.Same(r, of(15, add(stamp(1, 15), api.MaxNum, api.Note{}))) {
		t.Errorf("Add to nothing: %v, %d, %d", r, id, err)
	}
	late := of(1, add(stamp(api.MaxCount, 2), 1, api.Note{}))
	full := of(1, adds(api.MaxOps)...)
	for i, c := range []struct {
		r    api.Replica
		rec  int
		turn func(n *api.Note)
		err  api.Errno
	}{
		{known(), 0, func(n *api.Note) {}, api.ErrRange}, {known(), api.MaxNum + 1, func(n *api.Note) {}, api.ErrRange}, {known(), 1, func(n *api.Note) { n.Tier = api.MaxTiers }, api.ErrRange}, {known(), 1, func(n *api.Note) { n.Parent = -1 }, api.ErrRange}, {known(), 1, func(n *api.Note) { n.Rank = api.MaxNotes + 1 }, api.ErrRange}, {known(), 1, func(n *api.Note) { n.Span.To = 1 }, api.ErrTime}, {known(), 1, func(n *api.Note) { n.Text = "\xff" }, api.ErrForm}, {known(), 1, func(n *api.Note) { n.Text = strings.Repeat("a", api.MaxText+1) }, api.ErrLong}, {known(), 1, func(n *api.Note) { n.Id = math.MaxInt }, api.OK},
		{late, 0, func(n *api.Note) { n.Tier = -1 }, api.ErrStamp}, {full, 0, func(n *api.Note) { n.Tier = -1 }, api.ErrFull}, {of(1, adds(api.MaxOps-1)...), 1, func(n *api.Note) {}, api.OK}, {of(1, add(stamp(api.MaxCount-1, 2), 1, api.Note{})), 1, func(n *api.Note) {}, api.OK},
	} {
		m := n
		c.turn(&m)
		if r, id, err := replica.Add(c.r, c.rec, m); err != c.err || (id == 0) != (err != api.OK) || (err == api.OK) == replica.Same(r, api.Replica{}) {
			t.Errorf("%d: Add: %v, %d, %d, want %d", i, r, id, err, c.err)
		}
	}
}

// action is a Set or a Drop.
type action func(r api.Replica) (api.Replica, api.Errno)

func sets(note, field, n int, text string) action {
	return func(r api.Replica) (api.Replica, api.Errno) { return replica.Set(r, note, field, n, text) }
}

func text(note int, s string) action { return sets(note, api.FieldText, 0, s) }

func field(note, field, n int) action { return sets(note, field, n, "") }

func gone(note int) action {
	return func(r api.Replica) (api.Replica, api.Errno) { return replica.Drop(r, note) }
}

// P50.5
func TestSetAndDrop(t *testing.T) {
	k, at := known(), stamp(6, 3)
	for i, c := range []struct {
		f action
		o api.Op
	}{
		{text(mi, "new"), set(at, 5, mi, api.FieldText, 0, "new", stamp(2, 2), stamp(3, 1))}, {text(mi, ""), set(at, 5, mi, api.FieldText, 0, "", stamp(2, 2), stamp(3, 1))}, {text(ba, "ba"), set(at, 5, ba, api.FieldText, 0, "ba", stamp(1, 2))}, {field(mi, api.FieldFrom, 0), set(at, 5, mi, api.FieldFrom, 0, "", stamp(1, 1))}, {field(mi, api.FieldTo, api.MaxMs), set(at, 5, mi, api.FieldTo, api.MaxMs, "", stamp(5, 2))}, {field(ba, api.FieldFrom, 9), set(at, 5, ba, api.FieldFrom, 9, "", stamp(3, 2))},
		{gone(mi), drop(at, 5, mi, stamp(1, 1), stamp(2, 2), stamp(3, 1), stamp(5, 2))}, {gone(ba), drop(at, 5, ba, stamp(1, 2), stamp(3, 2))}, {gone(na), drop(at, 5, na, stamp(4, 3))},
	} {
		if r, err := c.f(k); err != api.OK || !replica.Same(r, of(3, append(slices.Clone(k.Ops), c.o)...)) {
			t.Errorf("%d: %v, %d", i, r, err)
		}
	}
	late := of(1, adds(1)[0], add(stamp(api.MaxCount, 2), 1, api.Note{}))
	full, room := of(1, adds(api.MaxOps)...), of(1, adds(api.MaxOps-1)...)
	for i, c := range []struct {
		f   action
		r   api.Replica
		err api.Errno
	}{
		{text(0, ""), k, api.ErrNone}, {text(16*3+1, "\n"), k, api.ErrNone}, {field(-1, 9, -1), k, api.ErrNone}, {gone(math.MaxInt), k, api.ErrNone}, {gone(16*3 + 3), k, api.ErrNone}, {gone(0), of(1), api.ErrNone}, {gone(33), late, api.ErrNone}, {gone(16*api.MaxOps + 17), full, api.ErrNone}, {text(33, ""), room, api.OK}, {gone(33), room, api.OK},
		{text(tu, "\n"), k, api.ErrGone}, {field(tu, 9, 0), k, api.ErrGone}, {gone(tu), k, api.ErrGone}, {text(17, "\n"), late, api.ErrStamp}, {field(17, 9, 0), late, api.ErrStamp}, {gone(17), late, api.ErrStamp}, {gone(17), full, api.ErrFull}, {field(17, 9, 0), full, api.ErrFull},
		{field(mi, 3, 0), k, api.ErrKind}, {field(mi, -1, 0), k, api.ErrKind}, {field(mi, math.MinInt, -1), k, api.ErrKind}, {field(mi, api.FieldText, 1), k, api.ErrArg}, {sets(mi, api.FieldText, 1, "\n"), k, api.ErrArg}, {text(mi, "\n"), k, api.ErrForm}, {text(mi, strings.Repeat("a", api.MaxText+1)), k, api.ErrLong}, {field(mi, api.FieldFrom, -1), k, api.ErrRange}, {field(mi, api.FieldTo, api.MaxMs+1), k, api.ErrRange}, {sets(mi, api.FieldTo, 1, "x"), k, api.ErrArg}, {sets(mi, api.FieldTo, -1, "x"), k, api.ErrRange},
	} {
		if r, err := c.f(c.r); err != c.err || (err == api.OK) == replica.Same(r, api.Replica{}) {
			t.Errorf("%d: %v, %d, want %d", i, r, err, c.err)
		}
	}
}

// P50.5: a note with more values than one operation may replace.
func TestTooManyValues(t *testing.T) {
	l := []api.Op{add(stamp(1, 1), 1, api.Note{})}
	for i := range api.MaxOver + 1 {
		l = append(l, set(stamp(2+i, 1), 1, 17, api.FieldText, 0, "a", stamp(1, 1)))
	}
	for i, c := range []struct{ values, set, drop int }{{api.MaxOver - 1, 0, 0}, {api.MaxOver, 0, 11}, {api.MaxOver + 1, 11, 11}} {
		r := of(2, l[:1+c.values]...)
		if _, err := replica.Set(r, 17, api.FieldText, 0, "b"); int(err) != c.set {
			t.Errorf("%d: Set: %d", i, err)
		}
		if _, err := replica.Drop(r, 17); int(err) != c.drop {
			t.Errorf("%d: Drop: %d", i, err)
		}
		if _, err := replica.Set(r, 17, api.FieldTo, 5, ""); err != api.OK {
			t.Errorf("%d: Set of another field: %d", i, err)
		}
	}
}

// P50.6
func TestSame(t *testing.T) {
	if !replica.Same(known(), known()) || !replica.Same(api.Replica{}, api.Replica{Seen: []int{}, Ops: []api.Op{}}) || !replica.Same(api.Replica{Ops: make([]api.Op, 1)}, api.Replica{Ops: []api.Op{{Over: []api.Stamp{}}}}) {
		t.Error("equal replicas")
	}
	for i, turn := range []func(r *api.Replica){
		func(r *api.Replica) { r.Dev++ }, func(r *api.Replica) { r.Seen[14]++ }, func(r *api.Replica) { r.Seen = r.Seen[:14] }, func(r *api.Replica) { r.Seen = append(r.Seen, 0) }, func(r *api.Replica) { r.Seen = nil }, func(r *api.Replica) { r.Ops = r.Ops[:9] }, func(r *api.Replica) { r.Ops = nil }, func(r *api.Replica) { r.Ops[0], r.Ops[1] = r.Ops[1], r.Ops[0] }, func(r *api.Replica) { r.Ops[9].N++ }, func(r *api.Replica) { r.Ops[9].Over[0].Dev++ }, func(r *api.Replica) { r.Ops[0].Note.Text = "" }, func(r *api.Replica) { r.Ops[8].Over = nil },
	} {
		r := known()
		turn(&r)
		if replica.Same(r, known()) || replica.Same(known(), r) || !replica.Same(r, r) {
			t.Error("change", i)
		}
	}
}

// merged returns a replica with the operations of another one, too.
func merged(r, other api.Replica) api.Replica {
	l := slices.Clone(r.Ops)
	for _, o := range other.Ops {
		if !slices.ContainsFunc(l, func(p api.Op) bool { return p.At == o.At }) {
			l = append(l, o)
		}
	}
	slices.SortFunc(l, func(a, b api.Op) int { return clock.Id(a.At) - clock.Id(b.At) })
	return of(r.Dev, l...)
}

// defined returns the cell of a note and whether it lives, from the definitions.
func defined(r api.Replica, note int) (api.Cell, bool) {
	var c api.Cell
	alive, added := false, false
	for _, o := range r.Ops {
		if o.Kind == api.DoAdd && o.Note.Id == note {
			c.Rec, c.Note, added = o.Rec, o.Note, true
		}
	}
	over := func(o api.Op, kind, field int) bool {
		return slices.ContainsFunc(r.Ops, func(p api.Op) bool {
			return p.Kind == kind && p.Note.Id == note && p.Set == field && slices.Contains(p.Over, o.At)
		})
	}
	for field, l := range []*[]api.Value{&c.Text, &c.From, &c.To} {
		for _, o := range r.Ops {
			if ops.Writes(o, note, field) && !over(o, api.DoSet, field) {
				*l = append(*l, ops.Value(o, field))
				alive = alive || !over(o, api.DoDrop, 0)
			}
		}
	}
	return c, alive && added
}

// checkCells checks all cells of a replica.
func checkCells(t *testing.T, r api.Replica) {
	if err := replica.Check(r); err != api.OK {
		t.Fatalf("%v: %d", r, err)
	}
	found := map[int][]api.Cell{}
	for _, o := range r.Ops {
		note := o.Note.Id
		want, lives := defined(r, note)
		c, ok := replica.Cell(r, note)
		if ok != lives || ok && !sameCell(c, want) || !ok && !sameCell(c, api.Cell{}) {
			t.Fatalf("Cell of %d in %v: %v, %t, want %v", note, r, c, ok, want)
		}
		if ok && (len(c.Text) == 0 || len(c.From) == 0 || len(c.To) == 0) {
			t.Fatalf("the cell of %d in %v has a field without values: %v", note, r, c)
		}
		if ok && o.Kind == api.DoAdd {
			found[o.Rec] = append(found[o.Rec], c)
		}
	}
	for rec := range 4 {
		l := replica.Cells(r, rec)
		if !slices.EqualFunc(l, found[rec], sameCell) || !slices.IsSortedFunc(l, func(a, b api.Cell) int { return a.Note.Id - b.Note.Id }) {
			t.Fatalf("Cells of %d in %v: %v, want %v", rec, r, l, found[rec])
		}
	}
}

// step does something with a note of a replica, and checks what it promises.
func step(t *testing.T, random *rand.Rand, r api.Replica) api.Replica {
	note := 0
	if len(r.Ops) > 0 {
		note = r.Ops[random.Intn(len(r.Ops))].Note.Id
	}
	_, lived := replica.Cell(r, note)
	field, n, text := random.Intn(3), random.Intn(9), ""
	if field == api.FieldText {
		n, text = 0, string("abcd"[random.Intn(4)])
	}
	var next api.Replica
	var err api.Errno
	switch kind := random.Intn(6); {
	case note == 0 || kind == 0:
		next, note, err = replica.Add(r, 1+random.Intn(2), api.Note{Tier: random.Intn(3), Text: text})
		if _, lives := replica.Cell(next, note); err != api.OK || !lives {
			t.Fatalf("Add to %v: %d", r, err)
		}
	case kind < 3:
		next, err = replica.Drop(r, note)
		if _, lives := replica.Cell(next, note); lives || lived != (err == api.OK) || !lived && err != api.ErrGone {
			t.Fatalf("Drop of %d from %v: %d", note, r, err)
		}
	default:
		next, err = replica.Set(r, note, field, n, text)
		c, lives := replica.Cell(next, note)
		values := [][]api.Value{c.Text, c.From, c.To}[field]
		if lives != lived || lived != (err == api.OK) || lived && (len(values) != 1 || values[0] != api.Value{At: next.Ops[len(r.Ops)].At, N: n, Text: text}) {
			t.Fatalf("Set of %d of %d in %v: %v, %d", field, note, r, c, err)
		}
	}
	if err != api.OK {
		return r
	}
	last := next.Ops[len(r.Ops)]
	if len(next.Ops) != len(r.Ops)+1 || !slices.EqualFunc(next.Ops[:len(r.Ops)], r.Ops, ops.Same) || clock.Covers(r.Seen, last.At) || last.At.Dev != r.Dev || last.Note.Id != note || replica.Check(next) != api.OK {
		t.Fatalf("%v after %v", next, r)
	}
	return next
}

// P50.2 to P50.5, P50.7: devices that change notes and sometimes meet.
func TestManyDevices(t *testing.T) {
	random := rand.New(rand.NewSource(50))
	several, revived := 0, 0
	for range 60 {
		var devices []api.Replica
		for dev := range 4 {
			r, _ := replica.New(3*dev + 1)
			devices = append(devices, r)
		}
		for range 60 {
			i, j := random.Intn(4), random.Intn(4)
			if random.Intn(4) == 0 {
				devices[i] = merged(devices[i], devices[j])
				checkCells(t, devices[i])
			} else {
				devices[i] = step(t, random, devices[i])
			}
		}
		a, b := devices[0], devices[0]
		for i := 1; i < 4; i++ {
			a, b = merged(a, devices[i]), merged(b, devices[4-i])
		}
		checkCells(t, a)
		// No annotation is lost: a note lives, unless all its values were known to those who deleted it, in whatever order they met.
		for _, o := range a.Ops {
			c, lives := replica.Cell(a, o.Note.Id)
			d, again := replica.Cell(b, o.Note.Id)
			if lives != again || !sameCell(c, d) {
				t.Fatalf("%v and %v", c, d)
			}
			if len(c.Text) > 1 {
				several++
			}
			if lives && slices.ContainsFunc(a.Ops, func(p api.Op) bool { return p.Kind == api.DoDrop && p.Note.Id == o.Note.Id }) {
				revived++
			}
		}
	}
	if several < 20 || revived < 20 {
		t.Error("only", several, "with several texts, and", revived, "that live though they were deleted")
	}
}

// P50.7, and the examples of the chapter: what was written without knowing of the deletion keeps the note alive.
func TestConcurrentDrop(t *testing.T) {
	r, _ := replica.New(1)
	r, note, _ := replica.Add(r, 3, api.Note{Text: "mi", Span: api.Span{From: 2, To: 9}})
	other := merged(of(2), r)
	for i, c := range []struct {
		field, n int
		text     string
		want     api.Note
	}{
		{api.FieldText, 0, "ba", api.Note{Id: note, Text: "ba", Span: api.Span{From: 2, To: 9}}}, {api.FieldFrom, 4, "", api.Note{Id: note, Text: "mi", Span: api.Span{From: 4, To: 9}}}, {api.FieldTo, 4, "", api.Note{Id: note, Text: "mi", Span: api.Span{From: 2, To: 4}}},
	} {
		one, _ := replica.Set(r, note, c.field, c.n, c.text)
		two, err := replica.Drop(other, note)
		both := merged(one, two)
		cell, lives := replica.Cell(both, note)
		if err != api.OK || !lives || replica.Current(cell) != c.want || replica.Check(both) != api.OK {
			t.Errorf("%d: %v, %t, %d", i, cell, lives, err)
		}
		gone, err := replica.Drop(both, note)
		if _, lives := replica.Cell(gone, note); lives || err != api.OK {
			t.Errorf("%d: Drop after both: %v, %d", i, gone, err)
		}
	}
	one, _ := replica.Set(r, note, api.FieldText, 0, "ba")
	two, _ := replica.Set(other, note, api.FieldText, 0, "pa")
	cell, _ := replica.Cell(merged(one, two), note)
	if len(cell.Text) != 2 || cell.Text[0].Text != "ba" || replica.Current(cell).Text != "pa" {
		t.Error(cell)
	}
}

// R5: results are new memory, and arguments stay as they are.
func TestMemory(t *testing.T) {
	k := known()
	for i, call := range []func() api.Replica{
		func() api.Replica { r, _, _ := replica.Add(k, 1, api.Note{}); return r }, func() api.Replica { r, _ := replica.Set(k, mi, api.FieldText, 0, "x"); return r }, func() api.Replica { r, _ := replica.Drop(k, mi); return r },
	} {
		r := call()
		for _, o := range r.Ops {
			clear(o.Over)
		}
		clear(r.Ops)
		clear(r.Seen)
		if len(r.Ops) != 11 || !replica.Same(k, known()) {
			t.Error("call", i, k)
		}
	}
	for _, c := range replica.Cells(k, 5) {
		clear(c.Text)
		clear(c.From)
		clear(c.To)
	}
	if !replica.Same(k, known()) || !slices.EqualFunc(replica.Cells(k, 5), cells(), sameCell) {
		t.Error(k)
	}
	r, _ := replica.New(1)
	r.Seen[0] = 5
	if r, _ := replica.New(1); r.Seen[0] != 0 {
		t.Error("New:", r)
	}
}

// The functions end for replicas that are not right, too.
func TestReplicasThatAreNotRight(t *testing.T) {
	odd := []api.Replica{
		{}, {Dev: 99, Seen: []int{math.MaxInt}}, {Dev: 1, Ops: []api.Op{set(stamp(1, 1), 1, 17, 0, 0, "", stamp(9, 9)), add(stamp(1, 1), 1, api.Note{}), drop(stamp(0, 0), 2, 17, stamp(1, 1)), {Kind: 9}, add(stamp(1, 1), 1, api.Note{})}},
	}
	for _, r := range odd {
		for _, note := range []int{0, 17} {
			replica.Cells(r, note)
			replica.Cell(r, note)
			replica.Add(r, 1, api.Note{})
			replica.Set(r, note, 0, 0, "x")
			replica.Drop(r, note)
		}
	}
}
