package ops_test

import (
	"bytes"
	"math"
	"math/rand"
	"slices"
	"strings"
	"testing"

	"langdoc/api"
	"langdoc/clock"
	"langdoc/ops"
	"langdoc/wire"
)

// stamp returns a stamp.
func stamp(count, dev int) api.Stamp {
	return api.Stamp{Count: count, Dev: dev}
}

// added, written, moved and dropped return right operations of each kind.
func added() api.Op {
	return api.Op{At: stamp(2, 3), Rec: 1, Note: api.Note{Id: 35, Tier: 1, Parent: 17, Span: api.Span{From: 5, To: 9}, Rank: 2, Text: "ab"}}
}

func written() api.Op {
	return api.Op{At: stamp(3, 1), Kind: api.DoSet, Rec: 1, Note: api.Note{Id: 35}, Text: "c", Over: []api.Stamp{stamp(2, 3)}}
}

func moved() api.Op {
	return api.Op{At: stamp(3, 1), Kind: api.DoSet, Rec: 1, Note: api.Note{Id: 35}, Set: api.FieldTo, N: 7, Over: []api.Stamp{stamp(2, 3), stamp(2, 4)}}
}

func dropped() api.Op {
	return api.Op{At: stamp(4, 2), Kind: api.DoDrop, Rec: api.MaxNum, Note: api.Note{Id: 35}, Over: []api.Stamp{stamp(2, 3), stamp(3, 1), stamp(4, 1)}}
}

// stamps returns so many stamps of the count 1 and 2, increasing.
func stamps(count int) []api.Stamp {
	var l []api.Stamp
	for i := range count {
		l = append(l, stamp(1+i/api.MaxDevs, 1+i%api.MaxDevs))
	}
	return l
}

// P49.1; P49.2: Bytes has the same errors.
func TestCheck(t *testing.T) {
	long := strings.Repeat("a", api.MaxText+1)
	for i, c := range []struct {
		of   func() api.Op
		err  api.Errno
		turn func(o *api.Op)
	}{
		{added, api.OK, func(o *api.Op) {}}, {written, api.OK, func(o *api.Op) {}}, {moved, api.OK, func(o *api.Op) {}}, {dropped, api.OK, func(o *api.Op) {}}, {added, api.ErrStamp, func(o *api.Op) { *o = api.Op{} }},
		// 1
		{added, api.ErrStamp, func(o *api.Op) { o.At.Dev, o.Kind = 16, 3 }}, {written, api.ErrStamp, func(o *api.Op) { o.At.Count = 0 }}, {dropped, api.ErrStamp, func(o *api.Op) { o.At.Count = api.MaxCount + 1 }}, {dropped, api.ErrStamp, func(o *api.Op) { o.At.Dev = 0 }}, {added, api.ErrStamp, func(o *api.Op) { o.At.Count = math.MinInt }},
		{added, api.ErrKind, func(o *api.Op) { o.Kind, o.Rec = 3, 0 }}, {added, api.ErrKind, func(o *api.Op) { o.Kind = -1 }}, {added, api.ErrKind, func(o *api.Op) { o.Kind = math.MaxInt }},
		{added, api.ErrRange, func(o *api.Op) { o.Rec, o.Note.Id = 0, 1 }}, {written, api.ErrRange, func(o *api.Op) { o.Rec, o.Note.Id = -1, 1 }}, {dropped, api.ErrRange, func(o *api.Op) { o.Rec, o.Note.Id = api.MaxNum+1, 1 }},
		// 2
		{added, api.ErrArg, func(o *api.Op) { o.Note.Id, o.Note.Tier = 34, 12 }}, {added, api.ErrArg, func(o *api.Op) { o.Note.Id = 0 }}, {added, api.ErrArg, func(o *api.Op) { o.At = stamp(3, 3); o.Note.Rank = -1 }},
		{added, api.ErrRange, func(o *api.Op) { o.Note.Tier, o.Note.Span.To = api.MaxTiers, 5 }}, {added, api.ErrRange, func(o *api.Op) { o.Note.Tier = -1 }}, {added, api.ErrRange, func(o *api.Op) { o.Note.Parent = -1 }}, {added, api.ErrRange, func(o *api.Op) { o.Note.Parent, o.Note.Text = api.MaxNum+1, "\n" }}, {added, api.ErrRange, func(o *api.Op) { o.Note.Rank = -1 }}, {added, api.ErrRange, func(o *api.Op) { o.Note.Rank, o.N = api.MaxNotes+1, 1 }}, {added, api.OK, func(o *api.Op) {
			o.Note.Tier, o.Note.Parent, o.Note.Rank = api.MaxTiers-1, api.MaxNum, api.MaxNotes
		}}, {added, api.OK, func(o *api.Op) { o.Note = api.Note{Id: 35} }},
		{added, api.ErrTime, func(o *api.Op) { o.Note.Span.To, o.Note.Text = 5, "\xff" }}, {added, api.ErrTime, func(o *api.Op) { o.Note.Span = api.Span{From: 1} }}, {added, api.ErrTime, func(o *api.Op) { o.Note.Span.From = -1 }}, {added, api.ErrTime, func(o *api.Op) { o.Note.Span.To = api.MaxMs + 1 }}, {added, api.OK, func(o *api.Op) { o.Note.Span.To = api.MaxMs }},
		{added, api.ErrForm, func(o *api.Op) { o.Note.Text, o.N = "\n", 1 }}, {added, api.ErrLong, func(o *api.Op) { o.Note.Text, o.Over = long, stamps(1) }}, {added, api.OK, func(o *api.Op) { o.Note.Text = long[1:] }}, {added, api.OK, func(o *api.Op) { o.Note.Text = "" }},
		// 3
		{written, api.ErrArg, func(o *api.Op) { o.Note.Id, o.Set = 49, 3 }}, {written, api.ErrArg, func(o *api.Op) { o.Note.Id = 50 }}, {written, api.ErrArg, func(o *api.Op) { o.Note.Id = 32 }}, {written, api.ErrArg, func(o *api.Op) { o.Note.Id = 0 }}, {dropped, api.ErrArg, func(o *api.Op) { o.Note.Id = 5 }}, {dropped, api.ErrArg, func(o *api.Op) { o.Note.Id = -35 }}, {dropped, api.ErrArg, func(o *api.Op) { o.Note.Id, o.Over = 66, nil }}, {dropped, api.OK, func(o *api.Op) { o.Note.Id = 65 }}, {written, api.OK, func(o *api.Op) { o.Note.Id = 17 }},
		{written, api.ErrArg, func(o *api.Op) { o.Note.Tier, o.Set = 1, 3 }}, {written, api.ErrArg, func(o *api.Op) { o.Note.Parent = 17 }}, {dropped, api.ErrArg, func(o *api.Op) { o.Note.Span.From = 1 }}, {dropped, api.ErrArg, func(o *api.Op) { o.Note.Span.To = 1 }}, {dropped, api.ErrArg, func(o *api.Op) { o.Note.Rank = 1 }}, {moved, api.ErrArg, func(o *api.Op) { o.Note.Text = "a" }},
		// 4
		{written, api.ErrKind, func(o *api.Op) { o.Set, o.Over = 3, nil }}, {written, api.ErrKind, func(o *api.Op) { o.Set, o.N = -1, -1 }}, {written, api.ErrKind, func(o *api.Op) { o.Set = math.MaxInt }}, {written, api.ErrArg, func(o *api.Op) { o.N, o.Text = 1, "\xff" }}, {written, api.ErrArg, func(o *api.Op) { o.N = -1 }}, {written, api.ErrForm, func(o *api.Op) { o.Text, o.Over = "\xff", nil }}, {written, api.ErrLong, func(o *api.Op) { o.Text = long }}, {written, api.OK, func(o *api.Op) { o.Text = "" }}, {written, api.OK, func(o *api.Op) { o.Text = long[1:] }},
		{moved, api.ErrRange, func(o *api.Op) { o.N, o.Text = api.MaxMs+1, "x" }}, {moved, api.ErrRange, func(o *api.Op) { o.N, o.Set = -1, api.FieldFrom }}, {moved, api.ErrArg, func(o *api.Op) { o.Text, o.Over = "x", nil }}, {moved, api.OK, func(o *api.Op) { o.N = 0 }}, {moved, api.OK, func(o *api.Op) { o.N, o.Set = api.MaxMs, api.FieldFrom }},
		{added, api.ErrArg, func(o *api.Op) { o.Set = 1 }}, {added, api.ErrArg, func(o *api.Op) { o.N = -1 }}, {added, api.ErrArg, func(o *api.Op) { o.Text = "a" }}, {dropped, api.ErrArg, func(o *api.Op) { o.Set, o.Over = 1, nil }}, {dropped, api.ErrArg, func(o *api.Op) { o.N = 1 }}, {dropped, api.ErrArg, func(o *api.Op) { o.Text = "\n" }},
		// 5
		{added, api.ErrArg, func(o *api.Op) { o.Over = stamps(1) }}, {added, api.ErrArg, func(o *api.Op) { o.Over = make([]api.Stamp, 17) }}, {added, api.OK, func(o *api.Op) { o.Over = []api.Stamp{} }}, {written, api.ErrShort, func(o *api.Op) { o.Over = nil }}, {dropped, api.ErrShort, func(o *api.Op) { o.Over = []api.Stamp{} }}, {written, api.ErrFull, func(o *api.Op) { o.Over = make([]api.Stamp, api.MaxOver+1) }}, {dropped, api.ErrFull, func(o *api.Op) { o.Over = stamps(api.MaxOver + 1) }}, {dropped, api.OK, func(o *api.Op) { o.Over = stamps(api.MaxOver) }}, {written, api.ErrStamp, func(o *api.Op) { o.Over = make([]api.Stamp, api.MaxOver) }},
		{written, api.ErrStamp, func(o *api.Op) { o.Over[0] = stamp(3, 1) }}, {written, api.ErrStamp, func(o *api.Op) { o.Over[0] = stamp(3, 2) }}, {moved, api.ErrStamp, func(o *api.Op) { o.Over[1] = stamp(4, 1) }}, {moved, api.ErrStamp, func(o *api.Op) { o.Over[1] = stamp(2, 16) }}, {moved, api.ErrStamp, func(o *api.Op) { o.Over[1] = stamp(1, 0) }}, {dropped, api.OK, func(o *api.Op) { o.Over[2] = stamp(3, 15) }},
		{dropped, api.ErrOrder, func(o *api.Op) { o.Over[0], o.Over[1] = o.Over[1], o.Over[0] }}, {dropped, api.ErrOrder, func(o *api.Op) { o.Over[1] = o.Over[0] }}, {dropped, api.ErrOrder, func(o *api.Op) { o.Over = []api.Stamp{stamp(2, 3), stamp(2, 2), stamp(0, 0)} }}, {dropped, api.ErrStamp, func(o *api.Op) { o.Over = []api.Stamp{stamp(2, 3), stamp(0, 2), stamp(1, 1)} }},
	} {
		o := c.of()
		c.turn(&o)
		if err := ops.Check(o); err != c.err {
			t.Errorf("%d: Check = %d, want %d", i, err, c.err)
		}
		b, err := ops.Bytes(o)
		if err != c.err || (err == api.OK) != (len(b) > 0) {
			t.Errorf("%d: Bytes = %x, %d", i, b, err)
		}
		if back, err := ops.From(b); c.err == api.OK && (err != api.OK || !ops.Same(back, o)) {
			t.Errorf("%d: From = %v, %d", i, back, err)
		}
	}
}

// raw returns the bytes of any operation, from the definition.
func raw(o api.Op) []byte {
	var b []byte
	ints := func(l ...int) {
		for _, n := range l {
			b = wire.PutInt(b, n)
		}
	}
	ints(o.At.Count, o.At.Dev, o.Kind, o.Rec, o.Note.Id, o.Note.Tier, o.Note.Parent, o.Note.Span.From, o.Note.Span.To, o.Note.Rank)
	b = wire.PutText(b, o.Note.Text)
	ints(o.Set, o.N)
	b = wire.PutText(b, o.Text)
	ints(len(o.Over))
	for _, s := range o.Over {
		ints(s.Count, s.Dev)
	}
	return b
}

// P49.2
func TestBytesAndFrom(t *testing.T) {
	if b, err := ops.Bytes(added()); string(b) != "\x04\x06\x00\x02\x46\x02\x22\x0a\x12\x04\x04ab\x00\x00\x00\x00" || err != api.OK {
		t.Errorf("Bytes: %x, %d", b, err)
	}
	s := "\x08\x04\x04\x02\x46\x00\x00\x00\x00\x00\x00\x00\x00\x00\x04\x04\x06\x06\x02" // of a DoDrop, with the number of the Over at 14
	for i, c := range []struct {
		b   string
		err api.Errno
	}{
		{s, api.OK}, {"", api.ErrShort}, {"\x80", api.ErrShort}, {s[:4] + "\x80\x00", api.ErrForm}, {s[:2] + strings.Repeat("\x80", 10), api.ErrForm}, {s[:18], api.ErrShort}, {s + "\x00", api.ErrForm}, {s + s, api.ErrForm},
		// A text.
		{s[:10] + "\x01", api.ErrForm}, {s[:10] + "\x08a", api.ErrShort}, {s[:13] + "\x01", api.ErrForm}, {s[:10] + "\x02" + s[11:], api.ErrShort}, {s[:10] + "\xfe\xff\xff\xff\xff\xff\xff\xff\xff\x01" + s[11:], api.ErrShort},
		// The number of the Over, as soon as it is read.
		{s[:14] + "\x01", api.ErrForm}, {s[:14] + "\x22", api.ErrForm}, {s[:14] + "\x22\x80", api.ErrForm}, {s[:14] + "\x20", api.ErrShort}, {s[:14] + "\xfe\xff\xff\xff\xff\xff\xff\xff\xff\x01", api.ErrForm}, {s[:14] + "\x80", api.ErrShort}, {s[:14] + "\x80\x00", api.ErrForm}, {s[:15] + "\x04\x80\x00", api.ErrForm}, {s[:14] + "\x02\x04\x06\x06\x02", api.ErrForm},
		// The error of Check comes last.
		{"\x08\x04\x06" + s[3:], api.ErrKind}, {"\x08\x04\x06" + s[3:18], api.ErrShort}, {"\x08\x04\x06" + s[3:] + "\x00", api.ErrForm}, {"\x00" + s[1:], api.ErrStamp}, {s[:14] + "\x00", api.ErrShort}, {"\x04\x06\x00\x02\x46\x02\x22\x0a\x12\x04\x04a\x0a\x00\x00\x00\x00", api.ErrForm}, {"\x04\x06\x00\x02\x46\x18\x22\x0a\x12\x04\x04a\x0a\x00\x00\x00\x00", api.ErrRange},
	} {
		o, err := ops.From([]byte(c.b))
		want := api.Op{}
		if c.err == api.OK {
			want = api.Op{At: stamp(4, 2), Kind: api.DoDrop, Rec: 1, Note: api.Note{Id: 35}, Over: []api.Stamp{stamp(2, 3), stamp(3, 1)}}
		}
		if err != c.err || !ops.Same(o, want) {
			t.Errorf("%d: From = %v, %d, want %d", i, o, err, c.err)
		}
	}
	// Operations that are not right: the error of Check.
	for i, turn := range []func(o *api.Op){func(o *api.Op) { o.Over = nil }, func(o *api.Op) { o.Note.Id = 50 }, func(o *api.Op) { o.Set = 9 }, func(o *api.Op) { o.N = math.MinInt }, func(o *api.Op) { o.Text = strings.Repeat("a", 5000) }, func(o *api.Op) { o.Rec = math.MaxInt }, func(o *api.Op) { o.Over[0] = stamp(9, 9) }} {
		o := written()
		turn(&o)
		if _, err := ops.From(raw(o)); err == api.OK || err != ops.Check(o) {
			t.Errorf("%d: From = %d, want %d", i, err, ops.Check(o))
		}
	}
}

// P49.3
func TestWritesAndValue(t *testing.T) {
	odd := api.Op{At: stamp(-1, 99), Kind: api.DoSet, Note: api.Note{Id: 35, Text: "n", Span: api.Span{From: 1, To: 2}}, N: 5, Text: "t"}
	set := func(field int) api.Op { odd.Set = field; return odd }
	later := added()
	later.Set, later.N, later.Text = api.FieldTo, 77, "other"
	for i, c := range []struct {
		o      api.Op
		values []api.Value // of the fields that are written, as FieldText, FieldFrom, FieldTo; without At
		fields []int
	}{
		{added(), []api.Value{{Text: "ab"}, {N: 5}, {N: 9}}, []int{0, 1, 2}}, {later, []api.Value{{Text: "ab"}, {N: 5}, {N: 9}}, []int{0, 1, 2}}, {written(), []api.Value{{Text: "c"}}, []int{api.FieldText}}, {moved(), []api.Value{{N: 7}}, []int{api.FieldTo}}, {dropped(), nil, nil},
		// Of operations that are not right, too.
		{set(api.FieldText), []api.Value{{Text: "t"}}, []int{api.FieldText}}, {set(api.FieldFrom), []api.Value{{N: 5}}, []int{api.FieldFrom}}, {set(api.FieldTo), []api.Value{{N: 5}}, []int{api.FieldTo}}, {set(3), nil, nil}, {set(-1), nil, nil}, {api.Op{Kind: 3, Note: api.Note{Id: 35}}, nil, nil}, {api.Op{Kind: -1, Note: api.Note{Id: 35}}, nil, nil},
	} {
		for _, field := range []int{api.FieldText, api.FieldFrom, api.FieldTo, 3, -1, math.MaxInt, math.MinInt} {
			var want api.Value
			at := slices.Index(c.fields, field)
			if at >= 0 {
				want = c.values[at]
				want.At = c.o.At
			}
			if v := ops.Value(c.o, field); v != want {
				t.Errorf("%d: Value of %d: %v, want %v", i, field, v, want)
			}
			if ops.Writes(c.o, 35, field) != (at >= 0) {
				t.Errorf("%d: Writes of %d: %t", i, field, at < 0)
			}
			for _, note := range []int{0, 34, 36, -35, math.MaxInt} {
				if ops.Writes(c.o, note, field) {
					t.Errorf("%d: Writes of %d of the note %d", i, field, note)
				}
			}
		}
	}
	if !ops.Writes(api.Op{}, 0, api.FieldTo) || ops.Value(api.Op{}, api.FieldTo) != (api.Value{}) {
		t.Error("the zero operation")
	}
}

// P49.4
func TestSame(t *testing.T) {
	none := added()
	none.Over = []api.Stamp{}
	if !ops.Same(added(), none) || !ops.Same(none, added()) || !ops.Same(dropped(), dropped()) || !ops.Same(api.Op{}, api.Op{}) {
		t.Error("equal operations")
	}
	for i, turn := range []func(o *api.Op){
		func(o *api.Op) { o.At.Count++ }, func(o *api.Op) { o.At.Dev++ }, func(o *api.Op) { o.Kind++ }, func(o *api.Op) { o.Rec++ }, func(o *api.Op) { o.Note.Id++ }, func(o *api.Op) { o.Note.Tier++ }, func(o *api.Op) { o.Note.Parent++ }, func(o *api.Op) { o.Note.Span.From++ }, func(o *api.Op) { o.Note.Span.To++ }, func(o *api.Op) { o.Note.Rank++ }, func(o *api.Op) { o.Note.Text = "x" }, func(o *api.Op) { o.Set++ }, func(o *api.Op) { o.N++ }, func(o *api.Op) { o.Text = "x" }, func(o *api.Op) { o.Over = o.Over[:2] }, func(o *api.Op) { o.Over = nil }, func(o *api.Op) { o.Over[2].Dev++ }, func(o *api.Op) { o.Over[0].Count++ },
	} {
		o := dropped()
		turn(&o)
		if ops.Same(o, dropped()) || ops.Same(dropped(), o) || !ops.Same(o, o) {
			t.Error("change", i)
		}
	}
}

// operation returns a right operation.
func operation(random *rand.Rand) api.Op {
	o := api.Op{At: stamp(2+random.Intn(4), 1+random.Intn(api.MaxDevs)), Kind: random.Intn(3), Rec: 1 + random.Intn(3)}
	if random.Intn(4) == 0 {
		o.At.Count, o.Rec = api.MaxCount-random.Intn(3), api.MaxNum-random.Intn(3)
	}
	texts := []string{"", "ba", "\u00e9", strings.Repeat("a", api.MaxText)}
	if o.Kind == api.DoAdd {
		from := random.Intn(api.MaxMs)
		o.Note = api.Note{Id: clock.Id(o.At), Tier: random.Intn(api.MaxTiers), Parent: random.Intn(100), Span: api.Span{From: from, To: from + 1 + random.Intn(api.MaxMs-from)}, Rank: random.Intn(api.MaxNotes), Text: texts[random.Intn(4)]}
		return o
	}
	o.Note.Id = clock.Id(stamp(1, 1+random.Intn(api.MaxDevs)))
	o.Over = slices.DeleteFunc(stamps(api.MaxOver-1), func(api.Stamp) bool { return random.Intn(2) == 0 })
	o.Over = append(o.Over, stamp(o.At.Count-1, api.MaxDevs))
	if o.At.Count == 2 {
		o.Over = o.Over[len(o.Over)-1:]
	}
	if o.Kind == api.DoSet {
		o.Set = random.Intn(3)
		if o.Set == api.FieldText {
			o.Text = texts[random.Intn(4)]
		} else {
			o.N = random.Intn(api.MaxMs + 1)
		}
	}
	return o
}

// P49.2, P49.3, P49.5: of many operations, and of bytes that were changed somewhere.
func TestManyOperations(t *testing.T) {
	random := rand.New(rand.NewSource(49))
	accepted := 0
	for range 3000 {
		o := operation(random)
		b, err := ops.Bytes(o)
		if err != api.OK || !bytes.Equal(b, raw(o)) {
			t.Fatalf("Bytes of %v: %x, %d", o, b, err)
		}
		if back, err := ops.From(b); err != api.OK || !ops.Same(back, o) {
			t.Fatalf("From of Bytes of %v: %v, %d", o, back, err)
		}
		for n := range b {
			if _, err := ops.From(b[:n]); err != api.ErrShort {
				t.Fatalf("From of the first %d bytes of %v: %d", n, o, err)
			}
		}
		if _, err := ops.From(append(slices.Clone(b), byte(random.Intn(256)))); err != api.ErrForm {
			t.Fatalf("From of a byte more than %v: %d", o, err)
		}
		checkFields(t, o)
		for range 20 {
			bent := slices.Clone(b)
			bent[random.Intn(len(bent))] = byte(random.Intn(256))
			other, err := ops.From(bent)
			again, _ := ops.Bytes(other)
			if err == api.OK && !bytes.Equal(again, bent) || err != api.OK && !ops.Same(other, api.Op{}) {
				t.Fatalf("From of %x: %v, %d", bent, other, err)
			}
			if err == api.OK {
				accepted++
			}
		}
	}
	if accepted < 100 {
		t.Error("only", accepted, "changed bytes are accepted")
	}
}

// checkFields checks that a right operation writes the fields of its own note that its kind writes.
func checkFields(t *testing.T, o api.Op) {
	count := 0
	for field := -1; field < 5; field++ {
		if ops.Writes(o, o.Note.Id, field) {
			count++
		}
		if (ops.Value(o, field).At == o.At) != ops.Writes(o, o.Note.Id, field) || ops.Writes(o, o.Note.Id+1, field) {
			t.Fatalf("the field %d of %v", field, o)
		}
	}
	if want := []int{3, 1, 0}[o.Kind]; count != want {
		t.Fatalf("%v writes %d fields", o, count)
	}
}

// R5: results are new memory, and arguments stay as they are.
func TestMemory(t *testing.T) {
	o := dropped()
	b, _ := ops.Bytes(o)
	kept := slices.Clone(b)
	back, _ := ops.From(b)
	clear(back.Over)
	if !bytes.Equal(b, kept) || !ops.Same(o, dropped()) {
		t.Error(b, o)
	}
	c, _ := ops.Bytes(written())
	text, _ := ops.From(c)
	clear(c)
	if text.Text != "c" {
		t.Error("From keeps its argument")
	}
}
