package media_test

import (
	"math"
	"slices"
	"strings"
	"testing"

	"langdoc/api"
	"langdoc/media"
)

// P10.1
func TestName(t *testing.T) {
	for _, s := range []string{"a", "z", "tape-1", "a-", "a_", "a0", "z9", "b--__--", strings.Repeat("a", api.MaxName), "a" + strings.Repeat("9", api.MaxName-1)} {
		if !media.Name(s) {
			t.Errorf("Name(%q) is false", s)
		}
	}
	for _, s := range []string{"", "1", "Tape", "-a", "_a", "0a", "a b", "a.", "aB", "ä", "aä", "a\xff", "a\n", " a", "a ", "`a", "{", "a`", "a{", "a/", "a:", strings.Repeat("a", api.MaxName+1), "a\x00"} {
		if media.Name(s) {
			t.Errorf("Name(%q) is true", s)
		}
	}
}

// P10.1: each byte, at the beginning and behind it.
func TestNameOfEachByte(t *testing.T) {
	for c := range 256 {
		b := byte(c)
		first := strings.IndexByte("abcdefghijklmnopqrstuvwxyz", b) >= 0
		later := first || strings.IndexByte("0123456789-_", b) >= 0
		if got := media.Name(string([]byte{b})); got != first {
			t.Errorf("Name of the byte %d: %t", c, got)
		}
		for _, s := range [][]byte{{'a', b}, {'a', b, 'a'}, {'z', '9', b}} {
			if got := media.Name(string(s)); got != later {
				t.Errorf("Name(%q): %t", s, got)
			}
		}
	}
}

// P10.1, P10.6: a name is a label.
func TestLabel(t *testing.T) {
	for _, s := range []string{"a", " ", "1", "Ana", "a b", "ä", "\u0301", "\u00ff", "~", "日本", "tape-1", "\u0085", "\U0010ffff", strings.Repeat("a", api.MaxName), strings.Repeat("é", api.MaxName/2)} {
		if !media.Label(s) {
			t.Errorf("Label(%q) is false", s)
		}
	}
	for _, s := range []string{"", "a\xff", "\x80", "a\x1f", "\n", "a\tb", "\x00", "a\x7f", "\x7f", "\xc0\x80", "\xed\xa0\x80", strings.Repeat("a", api.MaxName+1), strings.Repeat("é", api.MaxName/2) + "a"} {
		if media.Label(s) {
			t.Errorf("Label(%q) is true", s)
		}
	}
	for c := range 256 {
		s := string([]byte{byte(c)})
		if got := media.Label(s); got != (c >= 32 && c < 127) {
			t.Errorf("Label of the byte %d: %t", c, got)
		}
		if got := media.Label("a" + s + "b"); got != (c >= 32 && c < 127) {
			t.Errorf("Label of the byte %d between letters: %t", c, got)
		}
		if media.Name(s) && !media.Label(s) {
			t.Errorf("the name %q is no label", s)
		}
	}
}

// persons returns that many persons, with the Ids 1, 2, ..
func persons(count int) []api.Person {
	var l []api.Person
	for i := range count {
		l = append(l, api.Person{Id: i + 1, Name: "P"})
	}
	return l
}

// P10.2
func TestPeople(t *testing.T) {
	ana, bo := api.Person{Id: 2, Name: "Ana"}, api.Person{Id: 5, Name: "Bo", Member: true}
	for i, c := range []struct {
		l   []api.Person
		err api.Errno
	}{
		{nil, api.OK}, {[]api.Person{ana}, api.OK}, {[]api.Person{ana, bo}, api.OK}, {persons(api.MaxPeople), api.OK},
		{[]api.Person{{Id: 1, Name: "Ana"}, {Id: api.MaxNum, Name: "Ana"}}, api.OK},
		{persons(api.MaxPeople + 1), api.ErrFull}, {make([]api.Person, api.MaxPeople+1), api.ErrFull},
		{[]api.Person{{Id: 0, Name: "a"}}, api.ErrRange}, {[]api.Person{{Id: -1, Name: "a"}}, api.ErrRange}, {[]api.Person{{Id: api.MaxNum + 1, Name: "a"}}, api.ErrRange}, {[]api.Person{{Id: math.MaxInt, Name: "a"}}, api.ErrRange}, {[]api.Person{{Id: math.MinInt, Name: "a"}}, api.ErrRange},
		{[]api.Person{ana, ana}, api.ErrOrder}, {[]api.Person{bo, ana}, api.ErrOrder}, {[]api.Person{ana, bo, {Id: 3, Name: "a"}}, api.ErrOrder}, {[]api.Person{ana, bo, {Id: 5, Name: "Bo"}}, api.ErrOrder},
		{[]api.Person{{Id: 1}}, api.ErrName}, {[]api.Person{{Id: 1, Name: "a\n"}}, api.ErrName}, {[]api.Person{ana, {Id: 5, Name: strings.Repeat("a", 33)}}, api.ErrName},
		// Of several errors, the first one of the first person that has one.
		{[]api.Person{{Id: 0}}, api.ErrRange}, {[]api.Person{ana, {Id: 0}}, api.ErrRange}, {[]api.Person{ana, {Id: 1}}, api.ErrOrder}, {[]api.Person{{Id: 2}, {Id: 0}}, api.ErrName}, {[]api.Person{{Id: 2}, {Id: 2}}, api.ErrName}, {[]api.Person{bo, ana, {}}, api.ErrOrder}, {[]api.Person{ana, {}, ana}, api.ErrRange},
	} {
		if err := media.People(c.l); err != c.err {
			t.Errorf("%d: People = %d, want %d", i, err, c.err)
		}
	}
}

// P10.2: the first person with the Id.
func TestPerson(t *testing.T) {
	l := []api.Person{{Id: 2, Name: "Ana"}, {Id: 5, Name: "Bo", Member: true}, {Id: 5, Name: "Other"}, {Id: 0, Name: "Nobody"}, {Id: 1, Name: "Late"}}
	for _, c := range []struct{ id, at int }{{2, 0}, {5, 1}, {0, 3}, {1, 4}} {
		if p, ok := media.Person(l, c.id); p != l[c.at] || !ok {
			t.Errorf("Person(%d) = %v, %t", c.id, p, ok)
		}
	}
	for _, id := range []int{3, 6, -2, math.MaxInt} {
		if p, ok := media.Person(l, id); p != (api.Person{}) || ok {
			t.Errorf("Person(%d) = %v, %t", id, p, ok)
		}
	}
	if p, ok := media.Person(nil, 0); p != (api.Person{}) || ok {
		t.Errorf("Person of nobody = %v, %t", p, ok)
	}
}

func recording() api.Recording {
	return api.Recording{Id: 7, Name: "one", Length: 60000, Day: 46000, Speakers: []int{2, 5}}
}

// wrongs are changes that make the recording wrong, in the order of their errors.
var wrongs = []struct {
	err    api.Errno
	change func(r *api.Recording)
}{
	{api.ErrRange, func(r *api.Recording) { r.Id = 0 }},
	{api.ErrName, func(r *api.Recording) { r.Name = "One" }},
	{api.ErrTime, func(r *api.Recording) { r.Length = 0 }},
	{api.ErrRange, func(r *api.Recording) { r.Day = 0 }},
	{api.ErrArg, func(r *api.Recording) { r.Speakers = nil }},
	{api.ErrOrder, func(r *api.Recording) { r.Speakers = []int{2, 2, 3} }},
	{api.ErrNone, func(r *api.Recording) { r.Speakers = []int{2, 3, 2} }},
}

// P10.3
func TestCheck(t *testing.T) {
	l := []api.Person{{Id: 2, Name: "Ana"}, {Id: 5, Name: "Bo"}}
	for i, c := range []struct {
		err    api.Errno
		change func(r *api.Recording)
	}{
		{api.OK, func(r *api.Recording) {}},
		{api.OK, func(r *api.Recording) { r.Id, r.Name, r.Length, r.Day, r.Speakers = 1, "a", 1, 1, []int{2} }},
		{api.OK, func(r *api.Recording) {
			r.Id, r.Length, r.Day, r.Speakers = api.MaxNum, api.MaxMs, api.MaxDay, []int{5}
		}},
		{api.ErrRange, func(r *api.Recording) { r.Id = -1 }},
		{api.ErrRange, func(r *api.Recording) { r.Id = api.MaxNum + 1 }},
		{api.ErrName, func(r *api.Recording) { r.Name = "" }},
		{api.ErrName, func(r *api.Recording) { r.Name = "a b" }},
		{api.ErrTime, func(r *api.Recording) { r.Length = -1 }},
		{api.ErrTime, func(r *api.Recording) { r.Length = api.MaxMs + 1 }},
		{api.ErrTime, func(r *api.Recording) { r.Length = math.MaxInt }},
		{api.ErrRange, func(r *api.Recording) { r.Day = -1 }},
		{api.ErrRange, func(r *api.Recording) { r.Day = api.MaxDay + 1 }},
		{api.ErrArg, func(r *api.Recording) { r.Speakers = []int{} }},
		{api.ErrOrder, func(r *api.Recording) { r.Speakers = []int{5, 2} }},
		{api.ErrOrder, func(r *api.Recording) { r.Speakers = []int{5, 5} }},
		{api.ErrOrder, func(r *api.Recording) { r.Speakers = []int{2, 5, 1} }},
		{api.ErrOrder, func(r *api.Recording) { r.Speakers = []int{5, 3} }},
		{api.ErrNone, func(r *api.Recording) { r.Speakers = []int{1} }},
		{api.ErrNone, func(r *api.Recording) { r.Speakers = []int{0, 2} }},
		{api.ErrNone, func(r *api.Recording) { r.Speakers = []int{-9, -9} }},
		{api.ErrNone, func(r *api.Recording) { r.Speakers = []int{2, 5, 6} }},
		{api.ErrNone, func(r *api.Recording) { r.Speakers = []int{3, 2} }},
	} {
		r := recording()
		c.change(&r)
		if err := media.Check(l, r); err != c.err {
			t.Errorf("%d: Check = %d, want %d", i, err, c.err)
		}
	}
	// Of several errors, the one that is listed first.
	for from := range wrongs {
		r := recording()
		for i := len(wrongs) - 1; i >= from; i-- {
			wrongs[i].change(&r)
		}
		if err := media.Check(l, r); err != wrongs[from].err {
			t.Errorf("all wrongs from %d on: %d, want %d", from, err, wrongs[from].err)
		}
	}
	if err := media.Check(nil, recording()); err != api.ErrNone {
		t.Errorf("Check without persons = %d", err)
	}
}

// P10.4
func TestRecs(t *testing.T) {
	l := []api.Person{{Id: 2, Name: "Ana"}, {Id: 5, Name: "Bo"}}
	of := func(id int, name string) api.Recording {
		r := recording()
		r.Id, r.Name = id, name
		return r
	}
	var full []api.Recording
	for i := range api.MaxRecs + 1 {
		full = append(full, of(i+1, "r"+string(rune('a'+i))))
	}
	for i, c := range []struct {
		recs []api.Recording
		err  api.Errno
	}{
		{nil, api.OK}, {[]api.Recording{of(1, "a")}, api.OK}, {[]api.Recording{of(1, "b"), of(3, "a"), of(api.MaxNum, "c")}, api.OK}, {full[:api.MaxRecs], api.OK},
		{full, api.ErrFull}, {make([]api.Recording, api.MaxRecs+1), api.ErrFull},
		{[]api.Recording{of(3, "a"), of(1, "b")}, api.ErrOrder}, {[]api.Recording{of(1, "a"), of(1, "b")}, api.ErrOrder}, {[]api.Recording{of(1, "a"), of(5, "b"), of(3, "c")}, api.ErrOrder},
		{[]api.Recording{of(1, "a"), of(2, "a")}, api.ErrTwice}, {[]api.Recording{of(1, "a"), of(2, "b"), of(3, "a")}, api.ErrTwice}, {[]api.Recording{of(1, "a"), of(2, "b"), of(3, "b")}, api.ErrTwice},
		{[]api.Recording{of(1, "A")}, api.ErrName}, {[]api.Recording{{}}, api.ErrRange}, {[]api.Recording{of(1, "a"), {}}, api.ErrRange},
		// Of several errors, the first one of the first recording that has one.
		{[]api.Recording{of(2, "a"), of(2, "A")}, api.ErrName}, {[]api.Recording{of(2, "a"), of(2, "a")}, api.ErrOrder}, {[]api.Recording{of(2, "a"), of(3, "a"), of(1, "A")}, api.ErrTwice}, {[]api.Recording{of(2, "A"), of(1, "a")}, api.ErrName}, {[]api.Recording{of(2, "a"), of(1, "b"), {}}, api.ErrOrder},
	} {
		if err := media.Recs(l, c.recs); err != c.err {
			t.Errorf("%d: Recs = %d, want %d", i, err, c.err)
		}
	}
	for i, w := range wrongs {
		r := recording()
		w.change(&r)
		if err := media.Recs(l, []api.Recording{of(1, "a"), r}); err != w.err {
			t.Errorf("a recording that is wrong by %d: %d, want %d", i, err, w.err)
		}
	}
}

// P10.5
func TestSpeaksAndHeard(t *testing.T) {
	of := func(id int, speakers ...int) api.Recording { return api.Recording{Id: id, Speakers: speakers} }
	if !media.Speaks(of(1, 2, 5), 2) || !media.Speaks(of(1, 2, 5), 5) || !media.Speaks(of(1, 9, 2, 7), 7) || media.Speaks(of(2, 2, 5), 1) || media.Speaks(of(5), 5) || media.Speaks(of(1, 2, 5), 0) {
		t.Error("Speaks")
	}
	recs := []api.Recording{of(9, 2), of(4, 1, 2), of(1, 1), of(9, 2, 3), of(3), of(4, 3, 2)}
	for person, want := range map[int][]int{1: {1, 4}, 2: {4, 9}, 3: {4, 9}, 4: nil, 0: nil, 9: nil, -1: nil} {
		if got := media.Heard(recs, person); !slices.Equal(got, want) {
			t.Errorf("Heard(%d) = %v, want %v", person, got, want)
		}
	}
	if got := media.Heard(nil, 1); len(got) != 0 {
		t.Errorf("Heard of no recordings = %v", got)
	}
}

// P10.6: all lists of at most three of some recordings.
func TestArchives(t *testing.T) {
	l := []api.Person{{Id: 2, Name: "Ana"}, {Id: 5, Name: "Bo"}}
	further := []api.Person{{Id: 1, Name: "x"}, l[0], {Id: 4, Name: "y"}, l[1], {Id: 6, Name: "z"}}
	var some []api.Recording
	for _, id := range []int{0, 1, 2, 3} {
		for _, name := range []string{"", "a", "b", "c"} {
			for _, speakers := range [][]int{{2}, {2, 5}, {3}} {
				some = append(some, api.Recording{Id: id, Name: name, Length: 5, Day: 9, Speakers: speakers})
			}
		}
	}
	right := 0
	for _, a := range some {
		if media.Check(l, a) == api.OK && media.Check(further, a) != api.OK {
			t.Errorf("%v is wrong for further persons", a)
		}
		for _, b := range some {
			for _, c := range some {
				recs := []api.Recording{a, b, c}
				if media.Recs(l, recs) != api.OK {
					continue
				}
				right++
				if a.Id == b.Id || b.Id == c.Id || a.Id == c.Id || a.Name == b.Name || b.Name == c.Name || a.Name == c.Name {
					t.Fatalf("Recs(%v) is OK", recs)
				}
				for n := range recs {
					if err := media.Recs(l, recs[:n]); err != api.OK {
						t.Fatalf("Recs(%v) = %d", recs[:n], err)
					}
				}
			}
		}
	}
	if right != 6*8 {
		t.Errorf("%d lists were right", right)
	}
}

// R5: arguments are not modified.
func TestArgumentsAreKept(t *testing.T) {
	recs := []api.Recording{{Id: 9, Speakers: []int{3, 1}}, {Id: 4, Speakers: []int{1}}}
	media.Heard(recs, 1)
	media.Speaks(recs[0], 1)
	media.Recs(nil, recs)
	if recs[0].Id != 9 || !slices.Equal(recs[0].Speakers, []int{3, 1}) || recs[1].Id != 4 {
		t.Errorf("the recordings became %v", recs)
	}
}
