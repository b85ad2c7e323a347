package cite_test

import (
	"math"
	"math/rand"
	"slices"
	"strings"
	"testing"

	"langdoc/api"
	"langdoc/cite"
	"langdoc/exchange"
	"langdoc/num"
	"langdoc/ops"
	"langdoc/redact"
	"langdoc/replica"
	"langdoc/sample"
	"langdoc/tiers"
)

// The operations of the tests, and the replica of a device with some.
var stamp, add, set, drop, of = sample.Stamp, sample.Add, sample.Set, sample.Drop, sample.Replica

// cited returns a citation.
func cited(rec, note, count, dev int) api.Cite {
	return api.Cite{Rec: rec, Note: note, At: stamp(count, dev)}
}

// P54.1, and the examples of the chapter.
func TestPrintAndParse(t *testing.T) {
	for s, c := range map[string]api.Cite{
		"3.17@2.1": cited(3, 17, 2, 1), "0.0@0.0": {}, "-1.0@0.-20": cited(-1, 0, 0, -20), "1099511627776.-1099511627776@-1099511627776.1099511627776": cited(api.MaxNum, -api.MaxNum, -api.MaxNum, api.MaxNum), "10.2@300.15": cited(10, 2, 300, 15),
	} {
		if got := cite.Print(c); got != s {
			t.Errorf("Print of %v: %s", c, got)
		}
		if got, err := cite.Parse(s); got != c || err != api.OK {
			t.Errorf("Parse of %q: %v, %d", s, got, err)
		}
	}
	// Any numbers are printed, but only those of the range are read.
	if s := cite.Print(cited(math.MinInt, math.MaxInt, 1, api.MaxNum+1)); s != "-9223372036854775808.9223372036854775807@1.1099511627777" {
		t.Error("Print of great numbers:", s)
	}
	good := "3.17@2.1"
	bad := []string{"", ".", "@", ".@.", "3.17@2", "3.17@", "3.17", "3.17.2.1", "3@17.2@1", "3@2.1", "17@2.1", "@3.17.2.1", "03.17@2.1", "3.017@2.1", "3.17@02.1", "3.17@2.01", "+3.17@2.1", "3.17@2.+1", "-0.17@2.1", "3.-0@2.1", "3.17@-0.1", "3.17@2.-0", "--3.17@2.1", "3..17@2.1", "3.17@@2.1", "3.17@2..1", ".17@2.1", "3.@2.1", "3.17@.1", "3.17@2.", "3.17@2.1.1", "3.17@2@1.1", "3.17@2.1@", "0.3.17@2.1", "a.17@2.1", "3.17@2.a", "3,17@2,1", "0x3.17@2.1", "1_0.17@2.1", "1e2.17@2.1", "\u0663.17@2.1", "3\u200b.17@2.1", "1099511627777.17@2.1", "3.-1099511627777@2.1", "3.17@1099511627777.1", "3.17@2.9223372036854775808", "3.17@2.1\x00", "\xff"}
	for i := range good {
		bad = append(bad, good[:i]+" "+good[i:], good[:i]+"x"+good[i:])
	}
	for _, s := range append(bad, good+" ", good+"\n", strings.Repeat("3.17@2.1", 2)) {
		if c, err := cite.Parse(s); c != (api.Cite{}) || err != api.ErrForm {
			t.Errorf("Parse of %q: %v, %d", s, c, err)
		}
	}
}

// P54.1, P54.6: of many citations and texts.
func TestManyTexts(t *testing.T) {
	random := rand.New(rand.NewSource(54))
	some := func() int {
		return []int{random.Intn(20), -random.Intn(20), random.Intn(api.MaxNum + 1), -random.Intn(api.MaxNum + 1), api.MaxNum, -api.MaxNum}[random.Intn(6)]
	}
	found := map[string]api.Cite{}
	for range 5000 {
		c := cited(some(), some(), some(), some())
		s := cite.Print(c)
		if got, err := cite.Parse(s); got != c || err != api.OK {
			t.Fatalf("Parse of Print of %v: %v, %d", c, got, err)
		}
		if other, known := found[s]; known && other != c {
			t.Fatalf("%v and %v are both %s", c, other, s)
		}
		found[s] = c
	}
	read := 0
	for range 20000 {
		var b []byte
		for _, sign := range "3.1@2.1" {
			if random.Intn(12) == 0 {
				sign = rune("0123456789.@- "[random.Intn(14)])
			}
			b = append(b, byte(sign))
		}
		c, err := cite.Parse(string(b))
		if err == api.OK {
			read++
		}
		if (err == api.OK) != (cite.Print(c) == string(b)) || err != api.OK && err != api.ErrForm {
			t.Fatalf("Parse of %q: %v, %d", b, c, err)
		}
	}
	if read < 1000 || read > 19000 {
		t.Error(read, "texts are citations")
	}
}

// The notes of known.
const (
	mi = 16*1 + 1 // has two texts
	ba = 16*1 + 2 // is dropped, but lives, because it was moved
	tu = 16*2 + 1 // is dropped
	na = 16*4 + 3 // as it was added
)

// known returns a right replica.
func known() api.Replica {
	return of(3,
		add(stamp(1, 1), 5, api.Note{Span: api.Span{From: 2, To: 8}, Text: "mi"}), add(stamp(1, 2), 5, api.Note{Span: api.Span{From: 8, To: 9}, Text: "ba"}), add(stamp(2, 1), 6, api.Note{Text: "tu"}), set(stamp(2, 2), 5, mi, api.FieldText, 0, "ma", stamp(1, 1)), set(stamp(3, 1), 5, mi, api.FieldText, 0, "", stamp(1, 1)), set(stamp(3, 2), 5, ba, api.FieldFrom, 3, "", stamp(1, 2)),
		drop(stamp(3, 3), 5, ba, stamp(1, 2)), add(stamp(4, 3), 5, api.Note{}), set(stamp(4, 4), 6, tu, api.FieldText, 0, "du", stamp(2, 1)), drop(stamp(5, 1), 6, tu, stamp(2, 1), stamp(4, 4)), set(stamp(5, 2), 5, mi, api.FieldTo, 7, "", stamp(1, 1)),
	)
}

// P54.2, P54.3
func TestMakeAndHistory(t *testing.T) {
	if err := replica.Check(known()); err != api.OK {
		t.Fatal(err)
	}
	for i, c := range []struct {
		note    int
		want    api.Cite
		err     api.Errno
		history []api.Cite
	}{
		{mi, cited(5, mi, 3, 1), api.OK, []api.Cite{cited(5, mi, 1, 1), cited(5, mi, 2, 2), cited(5, mi, 3, 1)}}, {ba, cited(5, ba, 1, 2), api.OK, []api.Cite{cited(5, ba, 1, 2)}}, {na, cited(5, na, 4, 3), api.OK, []api.Cite{cited(5, na, 4, 3)}}, {tu, api.Cite{}, api.ErrGone, []api.Cite{cited(6, tu, 2, 1), cited(6, tu, 4, 4)}},
		{0, api.Cite{}, api.ErrNone, nil}, {16*2 + 2, api.Cite{}, api.ErrNone, nil}, {16*5 + 1, api.Cite{}, api.ErrNone, nil}, {-mi, api.Cite{}, api.ErrNone, nil}, {math.MaxInt, api.Cite{}, api.ErrNone, nil}, {math.MinInt, api.Cite{}, api.ErrNone, nil},
	} {
		if got, err := cite.Make(known(), c.note); got != c.want || err != c.err {
			t.Errorf("%d: Make: %v, %d", i, got, err)
		}
		if got := cite.History(known(), c.note); !slices.Equal(got, c.history) {
			t.Errorf("%d: History: %v", i, got)
		}
		if _, err := cite.Make(of(1), c.note); err != api.ErrNone || len(cite.History(of(1), c.note)) != 0 {
			t.Errorf("%d: Make of nothing: %d", i, err)
		}
	}
}

// P54.4, P54.5
func TestResolveAndOpen(t *testing.T) {
	d := api.Doc{Rec: api.Recording{Id: 5, Length: 12}, Tiers: sample.Tiers(), Notes: []api.Note{sample.Timed(mi, sample.Text, 0, 2, 7, "other"), sample.Timed(ba, sample.Text, 0, 7, 9, "")}}
	if err := tiers.Check(d); err != api.OK {
		t.Fatal(err)
	}
	other := d
	other.Rec.Id = 6
	deleted := api.Doc{Rec: api.Recording{Id: 6, Length: 12}, Tiers: sample.Tiers(), Notes: []api.Note{sample.Timed(tu, sample.Text, 0, 2, 7, "tu")}}
	all, some := []api.Span{{To: 12}}, []api.Span{{From: 3, To: 12}}
	for i, c := range []struct {
		c     api.Cite
		text  string
		err   api.Errno
		d     api.Doc
		spans []api.Span
		open  api.Errno
	}{
		{cited(5, mi, 1, 1), "mi", api.OK, d, all, api.OK}, {cited(5, mi, 2, 2), "ma", api.OK, d, all, api.OK}, {cited(5, mi, 3, 1), "", api.OK, d, all, api.OK}, {cited(5, ba, 1, 2), "ba", api.OK, d, all, api.OK}, {cited(5, ba, 1, 2), "ba", api.OK, d, some, api.OK}, {cited(5, mi, 1, 1), "mi", api.OK, d, []api.Span{{From: 2, To: 7}}, api.OK},
		{cited(5, mi, 1, 1), "mi", api.OK, d, some, api.ErrDeny}, {cited(5, mi, 3, 1), "", api.OK, d, nil, api.ErrDeny}, {cited(5, ba, 1, 2), "ba", api.OK, d, []api.Span{{From: 7, To: 8}, {From: 9, To: 7}}, api.ErrDeny},
		{cited(5, na, 4, 3), "", api.OK, d, nil, api.ErrNone}, {cited(5, mi, 1, 1), "mi", api.OK, other, some, api.ErrNone}, {cited(5, mi, 1, 1), "mi", api.OK, api.Doc{}, all, api.ErrNone}, {cited(5, mi, 2, 2), "ma", api.OK, deleted, all, api.ErrNone}, {cited(5, ba, 1, 2), "ba", api.OK, api.Doc{Rec: d.Rec, Tiers: d.Tiers, Notes: d.Notes[:1]}, all, api.ErrNone},
		// Operations that write another field or another note, or that delete it; another recording; stamps without an operation.
		{cited(5, mi, 5, 2), "", api.ErrNone, d, all, api.ErrNone}, {cited(5, ba, 3, 2), "", api.ErrNone, d, all, api.ErrNone}, {cited(5, ba, 3, 3), "", api.ErrNone, d, all, api.ErrNone}, {cited(5, mi, 1, 2), "", api.ErrNone, d, all, api.ErrNone}, {cited(6, mi, 1, 1), "", api.ErrNone, other, all, api.ErrNone}, {cited(0, mi, 1, 1), "", api.ErrNone, d, all, api.ErrNone}, {cited(5, mi, 1, 3), "", api.ErrNone, d, all, api.ErrNone}, {cited(5, mi, 2, 1), "", api.ErrNone, d, nil, api.ErrNone}, {cited(6, tu, 5, 1), "", api.ErrNone, deleted, nil, api.ErrNone}, {api.Cite{}, "", api.ErrNone, d, all, api.ErrNone}, {cited(5, 0, 1, 1), "", api.ErrNone, d, all, api.ErrNone}, {cited(math.MinInt, math.MaxInt, math.MinInt, math.MaxInt), "", api.ErrNone, d, all, api.ErrNone},
		{cited(6, tu, 2, 1), "", api.ErrGone, deleted, all, api.ErrGone}, {cited(6, tu, 4, 4), "", api.ErrGone, deleted, nil, api.ErrGone}, {cited(6, tu, 2, 1), "", api.ErrGone, d, nil, api.ErrGone}, {cited(5, tu, 2, 1), "", api.ErrNone, deleted, nil, api.ErrNone},
	} {
		if text, err := cite.Resolve(known(), c.c); text != c.text || err != c.err {
			t.Errorf("%d: Resolve: %q, %d", i, text, err)
		}
		want := ""
		if c.open == api.OK {
			want = c.text
		}
		if text, err := cite.Open(known(), c.d, c.spans, c.c); text != want || err != c.open {
			t.Errorf("%d: Open: %q, %d", i, text, err)
		}
	}
}

// P54.6, and the example of the chapter: a citation resolves to the text of its version.
func TestChangedText(t *testing.T) {
	r, note, _ := replica.Add(of(1), 3, api.Note{Text: "ba"})
	before, _ := cite.Make(r, note)
	r, _ = replica.Set(r, note, api.FieldText, 0, "pa")
	after, err := cite.Make(r, note)
	if err != api.OK || cite.Print(before) != "3.17@1.1" || cite.Print(after) != "3.17@2.1" {
		t.Error(before, after, err)
	}
	for c, want := range map[api.Cite]string{before: "ba", after: "pa"} {
		if text, err := cite.Resolve(r, c); text != want || err != api.OK {
			t.Errorf("Resolve of %v: %q, %d", c, text, err)
		}
	}
	r, _ = replica.Drop(r, note)
	for _, c := range []api.Cite{before, after} {
		if text, err := cite.Resolve(r, c); text != "" || err != api.ErrGone {
			t.Errorf("Resolve of %v of a note that was deleted: %q, %d", c, text, err)
		}
	}
	// A value of a device that did not know of the deletion brings the citations back.
	late := of(2, append(slices.Clone(r.Ops[:1]), set(stamp(2, 2), 3, note, api.FieldTo, 5, "", stamp(1, 1)))...)
	r, _ = exchange.Merge(r, late.Ops)
	if text, err := cite.Resolve(r, before); text != "ba" || err != api.OK {
		t.Errorf("Resolve of a note that lives again: %q, %d", text, err)
	}
}

// checkNotes checks the citations of all notes of a replica from the definitions, and returns those that were made, with their texts.
func checkNotes(t *testing.T, r api.Replica) map[api.Cite]string {
	made := map[api.Cite]string{}
	for _, o := range r.Ops {
		note := o.Note.Id
		cell, lives := replica.Cell(r, note)
		var history []api.Cite
		for _, p := range r.Ops {
			if !ops.Writes(p, note, api.FieldText) {
				continue
			}
			c := cited(o.Rec, note, p.At.Count, p.At.Dev)
			history = append(history, c)
			text, err := cite.Resolve(r, c)
			if lives != (err == api.OK) || lives && text != ops.Value(p, api.FieldText).Text || !lives && err != api.ErrGone {
				t.Fatalf("Resolve of %v in %v: %q, %d", c, r, text, err)
			}
		}
		if got := cite.History(r, note); !slices.Equal(got, history) {
			t.Fatalf("History of %d in %v: %v", note, r, got)
		}
		c, err := cite.Make(r, note)
		if !lives {
			if c != (api.Cite{}) || err != api.ErrGone {
				t.Fatalf("Make of %d in %v: %v, %d", note, r, c, err)
			}
			continue
		}
		text := replica.Current(cell).Text
		if got, wrong := cite.Resolve(r, c); err != api.OK || wrong != api.OK || got != text || !slices.Contains(history, c) || c.At != cell.Text[len(cell.Text)-1].At {
			t.Fatalf("Make of %d in %v: %v, %d", note, r, c, err)
		}
		made[c] = text
	}
	return made
}

// P54.2 to P54.4, P54.6: citations that were made resolve to the same text, whatever is changed and merged, as long as the note lives.
func TestManyDevices(t *testing.T) {
	random := rand.New(rand.NewSource(55))
	old, gone := 0, 0
	for range 100 {
		devices := []api.Replica{of(1), of(2), of(3)}
		cites := map[api.Cite]string{}
		for round := range 80 {
			i, j := random.Intn(3), random.Intn(3)
			if random.Intn(6) == 0 && i != j {
				devices[i], devices[j], _ = exchange.Sync(devices[i], devices[j])
			} else {
				devices[i] = sample.Change(random.Intn, devices[i])
			}
			if round%20 > 0 {
				continue
			}
			for c, text := range checkNotes(t, devices[i]) {
				cites[c] = text
			}
		}
		all, _ := exchange.Merge(devices[0], slices.Concat(devices[1].Ops, devices[2].Ops))
		checkNotes(t, all)
		for c, want := range cites {
			_, lives := replica.Cell(all, c.Note)
			text, err := cite.Resolve(all, c)
			if lives && (text != want || err != api.OK) || !lives && err != api.ErrGone {
				t.Fatalf("Resolve of %v in %v: %q, %d, want %q", c, all, text, err, want)
			}
			if now, _ := cite.Make(all, c.Note); lives && now != c {
				old++
			}
			if !lives {
				gone++
			}
		}
	}
	if old < 100 || gone < 100 {
		t.Error("only", old, "citations of former versions, and", gone, "of deleted notes")
	}
}

// P54.5: of many documents.
func TestManyDocuments(t *testing.T) {
	random := rand.New(rand.NewSource(56))
	count := map[api.Errno]int{}
	for range 300 {
		d := sample.Doc(random.Intn)
		var l []api.Op
		for count := range 40 {
			l = append(l, add(stamp(count+1, 1+random.Intn(3)), 3+random.Intn(6)/5, api.Note{Text: num.Text(count)}))
		}
		r := of(1, l...)
		from := random.Intn(6)
		spans := []api.Span{{From: from, To: from + random.Intn(13)}}
		for _, o := range l {
			c := cited(o.Rec, o.Note.Id, o.At.Count, o.At.Dev)
			_, found := tiers.Get(d, c.Note)
			want := api.OK
			switch {
			case o.Rec != d.Rec.Id || !found:
				want = api.ErrNone
			case slices.Contains(redact.Hidden(d, spans), c.Note):
				want = api.ErrDeny
			}
			text, err := cite.Open(r, d, spans, c)
			if err != want || err == api.OK && text != o.Note.Text || err != api.OK && text != "" {
				t.Fatalf("Open of %v in %v with %v: %q, %d, want %d", c, d, spans, text, err, want)
			}
			count[err]++
		}
	}
	for _, err := range []api.Errno{api.OK, api.ErrNone, api.ErrDeny} {
		if count[err] < 20 {
			t.Error(count)
		}
	}
}

// R5: arguments stay as they are.
func TestMemory(t *testing.T) {
	r, d, spans := known(), sample.Of(sample.Timed(mi, sample.Text, 0, 2, 7, "x")), []api.Span{{From: 5, To: 9}, {From: 0, To: 5}}
	d.Rec.Id = 5
	clear(cite.History(r, mi))
	if text, err := cite.Open(r, d, spans, cited(5, mi, 2, 2)); text != "ma" || err != api.OK {
		t.Error(text, err)
	}
	if !replica.Same(r, known()) || spans[0].From != 5 || d.Notes[0].Text != "x" {
		t.Error(r, d, spans)
	}
}

// The functions end for replicas and documents that are not right, too.
func TestWhatIsNotRight(t *testing.T) {
	odd := []api.Replica{{}, {Dev: 99, Seen: []int{math.MaxInt}}, {Dev: 1, Ops: []api.Op{set(stamp(1, 1), 1, 17, 0, 0, "", stamp(1, 1)), add(stamp(1, 1), 1, api.Note{}), drop(stamp(0, 0), 2, 17), {Kind: 9}, add(stamp(1, 1), 1, api.Note{})}}, {Ops: []api.Op{add(stamp(1, 1), 1, api.Note{}), set(stamp(1, 1), 1, 17, 0, 0, "", stamp(1, 1))}}}
	for _, r := range odd {
		for _, note := range []int{0, 17} {
			cite.Make(r, note)
			cite.History(r, note)
			cite.Resolve(r, cited(1, note, 1, 1))
			cite.Open(r, api.Doc{Notes: []api.Note{{Id: 17, Parent: 17, Tier: 8}, {Id: 17}}}, nil, cited(1, note, 1, 1))
		}
	}
}
