package access_test

import (
	"cmp"
	"math"
	"math/rand"
	"slices"
	"testing"

	"langdoc/access"
	"langdoc/api"
	"langdoc/consent"
	"langdoc/media"
	"langdoc/protocol"
	"langdoc/span"
)

// tape returns a recording of the speakers 5 and 7, rights for it, and other recordings.
func tape() (api.Recording, api.Rights) {
	r := api.Recording{Id: 1, Name: "tape", Length: 1000, Day: 3, Speakers: []int{5, 7}}
	return r, api.Rights{
		People: []api.Person{{Id: 5, Name: "a", Member: true}, {Id: 7, Name: "b"}, {Id: 8, Name: "c", Member: true}, {Id: 9, Name: "d"}},
		Groups: []api.Group{{Id: 2, Name: "g", People: []int{9}, Subs: []int{3}}, {Id: 3, Name: "h", People: []int{7}}},
		Consents: []api.Consent{
			{Person: 5, Day: 10, Kind: api.ConsentAll}, {Person: 9, Day: 15, Kind: api.ConsentNone}, {Person: 7, Rec: 1, Day: 20, Kind: api.ConsentAll}, {Person: 5, Rec: 2, Day: 25, Kind: api.ConsentNone},
			{Person: 7, Rec: 1, Day: 40, Kind: api.ConsentCommunity}, {Person: 7, Day: 50, Kind: api.ConsentAll}, {Person: 5, Day: 60, Kind: api.ConsentNone},
		},
		Rules: []api.Rule{
			{Rec: 1, Span: api.Span{From: 200, To: 300}, Protocol: api.Protocol{Level: api.LevelGroups, Groups: []int{2}}}, {Rec: 1, Span: api.Span{From: 250, To: 400}, Protocol: api.Protocol{Level: api.LevelCommunity}}, {Rec: 1, Span: api.Span{From: 900, To: 1000}, Protocol: api.Protocol{Until: 30}},
			{Rec: 2, Protocol: api.Protocol{Level: api.LevelClosed}}, {Rec: 3, Span: api.Span{From: 1, To: 2}, Protocol: api.Protocol{Level: api.LevelClosed, Until: 70}}, {Rec: 1, Span: api.Span{From: 400, To: 401}, Protocol: api.Protocol{}},
		},
	}
}

// numbered returns a recording with another Id and name.
func numbered(r api.Recording, id int, name string) api.Recording {
	r.Id, r.Name = id, name
	return r
}

// P45.1
func TestCheck(t *testing.T) {
	many := make([]api.Rule, api.MaxRights+1)
	for i := range many {
		many[i] = api.Rule{Rec: 1}
	}
	for i, c := range []struct {
		err  api.Errno
		turn func(r *api.Recording, a *api.Rights)
	}{
		{api.OK, func(r *api.Recording, a *api.Rights) {}}, {api.OK, func(r *api.Recording, a *api.Rights) { *a = api.Rights{People: a.People} }},
		// That of each part, and in which order.
		{api.ErrName, func(r *api.Recording, a *api.Rights) { a.People[0].Name = ""; r.Id = 0 }}, {api.ErrRange, func(r *api.Recording, a *api.Rights) { a.People[0].Id = 0; r.Name = "" }}, {api.ErrNone, func(r *api.Recording, a *api.Rights) { a.People = nil }},
		{api.ErrName, func(r *api.Recording, a *api.Rights) { r.Name = "A"; a.Groups[0].Id = 0 }}, {api.ErrArg, func(r *api.Recording, a *api.Rights) { r.Speakers = nil; a.Groups[0].Id = 0 }},
		{api.ErrRange, func(r *api.Recording, a *api.Rights) { a.Groups[0].Id = 0; a.Consents[0].Kind = 9 }}, {api.ErrCycle, func(r *api.Recording, a *api.Rights) { a.Groups[1].Subs = []int{2}; a.Consents[0].Kind = 9 }},
		{api.ErrKind, func(r *api.Recording, a *api.Rights) { a.Consents[0].Kind = 9; a.Rules[0].Rec = 0 }}, {api.ErrOrder, func(r *api.Recording, a *api.Rights) { a.Consents[0].Day = 16; a.Rules = make([]api.Rule, 61) }},
		{api.OK, func(r *api.Recording, a *api.Rights) { a.Rules = many[1:] }}, {api.ErrFull, func(r *api.Recording, a *api.Rights) { a.Rules = many }}, {api.ErrFull, func(r *api.Recording, a *api.Rights) { a.Rules = make([]api.Rule, api.MaxRights+1) }},
		// The rules.
		{api.ErrRange, func(r *api.Recording, a *api.Rights) { a.Rules[0] = api.Rule{Span: api.Span{From: 5, To: 5}} }}, {api.ErrRange, func(r *api.Recording, a *api.Rights) { a.Rules[5].Rec = -1 }}, {api.ErrRange, func(r *api.Recording, a *api.Rights) { a.Rules[5].Rec = api.MaxNum + 1 }}, {api.OK, func(r *api.Recording, a *api.Rights) { a.Rules[5].Rec = api.MaxNum }}, {api.ErrRange, func(r *api.Recording, a *api.Rights) { a.Rules[0].Rec = math.MinInt; a.Rules[0].Protocol.Level = 9 }},
		{api.ErrTime, func(r *api.Recording, a *api.Rights) { a.Rules[0].Span.To = 200; a.Rules[0].Protocol.Level = 9 }}, {api.ErrTime, func(r *api.Recording, a *api.Rights) { a.Rules[0].Span = api.Span{From: -1, To: 5} }}, {api.ErrTime, func(r *api.Recording, a *api.Rights) { a.Rules[0].Span = api.Span{From: 5} }}, {api.ErrTime, func(r *api.Recording, a *api.Rights) { a.Rules[0].Span = api.Span{To: -1} }}, {api.ErrTime, func(r *api.Recording, a *api.Rights) { a.Rules[4].Span.To = api.MaxMs + 1 }}, {api.OK, func(r *api.Recording, a *api.Rights) { a.Rules[4].Span.To = api.MaxMs }},
		{api.ErrTime, func(r *api.Recording, a *api.Rights) { a.Rules[2].Span.To = 1001; a.Rules[2].Protocol.Level = 9 }}, {api.ErrTime, func(r *api.Recording, a *api.Rights) { r.Length = 999 }}, {api.OK, func(r *api.Recording, a *api.Rights) { a.Rules[2].Span.To = 1001; a.Rules[2].Rec = 2 }}, {api.OK, func(r *api.Recording, a *api.Rights) { a.Rules[2].Span = api.Span{} }},
		{api.ErrKind, func(r *api.Recording, a *api.Rights) { a.Rules[3].Protocol.Level = 4 }}, {api.ErrNone, func(r *api.Recording, a *api.Rights) { a.Rules[0].Protocol.Groups = []int{4} }}, {api.ErrTime, func(r *api.Recording, a *api.Rights) { a.Rules[2].Protocol.Until = -1 }}, {api.ErrArg, func(r *api.Recording, a *api.Rights) { a.Rules[1].Protocol.Groups = []int{2} }}, {api.ErrNone, func(r *api.Recording, a *api.Rights) { a.Groups = nil }},
		// The first rule decides.
		{api.ErrKind, func(r *api.Recording, a *api.Rights) { a.Rules[0].Protocol.Level = 9; a.Rules[1].Rec = 0 }}, {api.ErrTime, func(r *api.Recording, a *api.Rights) { a.Rules[1].Span.To = 250; a.Rules[2].Rec = 0 }},
	} {
		r, a := tape()
		c.turn(&r, &a)
		if err := access.Check([]api.Recording{r}, a); err != c.err {
			t.Errorf("change %d: %d, want %d", i, err, c.err)
		}
	}
	r, a := tape()
	next := numbered(r, 3, "next")
	next.Length = 2
	if err := access.Check([]api.Recording{r, next}, a); err != api.OK {
		t.Error("Check of two recordings:", err)
	}
	next.Length = 1
	if err := access.Check([]api.Recording{r, next}, a); err != api.ErrTime {
		t.Error("Check of a second recording that is too short:", err)
	}
	if access.Check(nil, api.Rights{}) != api.OK || access.Check(nil, a) != api.OK || access.Check([]api.Recording{next, r}, a) != api.ErrOrder {
		t.Error("Check of other recordings")
	}
}

// P45.2, P45.3
func TestBaseAndSpans(t *testing.T) {
	r, a := tape()
	two, three := numbered(r, 2, "two"), numbered(r, 3, "three")
	early := []api.Span{{From: 0, To: 200}, {From: 400, To: 900}}
	late := []api.Span{{From: 0, To: 200}, {From: 400, To: 1000}}
	alone := r
	alone.Speakers = []int{7}
	for i, c := range []struct {
		r           api.Recording
		person, day int
		err         api.Errno
		want        []api.Span
	}{
		{r, 0, 9, api.ErrGone, nil}, {r, 0, 19, api.ErrGone, nil}, {r, 5, 19, api.ErrGone, nil}, {r, 0, 20, api.OK, early}, {r, 0, 29, api.OK, early}, {r, 0, 30, api.OK, late}, {r, 99, 39, api.OK, late}, {r, -1, 39, api.OK, late},
		// Members of the community, and of the group and its subgroup.
		{r, 8, 39, api.OK, []api.Span{{From: 0, To: 200}, {From: 300, To: 1000}}}, {r, 9, 39, api.OK, []api.Span{{From: 0, To: 250}, {From: 400, To: 1000}}}, {r, 7, 29, api.OK, []api.Span{{From: 0, To: 250}, {From: 400, To: 900}}},
		// The consent of one speaker is for the community, then it is withdrawn.
		{r, 0, 40, api.ErrDeny, nil}, {r, 7, 40, api.ErrDeny, nil}, {r, 99, 49, api.ErrDeny, nil}, {r, 8, 40, api.OK, []api.Span{{From: 0, To: 200}, {From: 300, To: 1000}}}, {r, 5, 49, api.OK, []api.Span{{From: 0, To: 200}, {From: 300, To: 1000}}}, {r, 0, 50, api.OK, late}, {r, 8, 60, api.ErrGone, nil}, {r, 0, 60, api.ErrGone, nil}, {r, 5, math.MaxInt, api.ErrGone, nil}, {r, 5, math.MinInt, api.ErrGone, nil},
		// Other recordings: consent for one is none for others, and a rule for all times.
		{two, 0, 24, api.ErrGone, nil}, {two, 0, 50, api.ErrGone, nil}, {three, 0, 49, api.ErrGone, nil}, {three, 0, 50, api.OK, []api.Span{{From: 0, To: 1}, {From: 2, To: 1000}}}, {three, 8, 59, api.OK, []api.Span{{From: 0, To: 1}, {From: 2, To: 1000}}},
		{alone, 8, 60, api.OK, []api.Span{{From: 0, To: 200}, {From: 300, To: 1000}}}, {numbered(alone, 2, "two"), 0, 50, api.OK, nil}, {numbered(alone, 2, "two"), 8, 50, api.OK, nil}, {numbered(alone, 4, "four"), 0, 50, api.OK, []api.Span{{From: 0, To: 1000}}},
	} {
		v := api.Viewer{Person: c.person, Day: c.day}
		if err := access.Base(a, c.r, v); err != c.err {
			t.Errorf("%d: Base = %d, want %d", i, err, c.err)
		}
		if l := access.Spans(a, c.r, v); !slices.Equal(l, c.want) {
			t.Errorf("%d: Spans = %v, want %v", i, l, c.want)
		}
	}
	// Speaker by speaker: the first one decides.
	a.Consents = []api.Consent{{Person: 5, Day: 1, Kind: api.ConsentCommunity}}
	if err := access.Base(a, r, api.Viewer{Day: 5}); err != api.ErrDeny {
		t.Error("Base, if the first one denies:", err)
	}
	if err := access.Base(a, r, api.Viewer{Person: 8, Day: 5}); err != api.ErrGone {
		t.Error("Base, if the second one has given nothing:", err)
	}
}

// P45.4
func TestMay(t *testing.T) {
	r, a := tape()
	for i, c := range []struct {
		from, to, person, day int
		err                   api.Errno
	}{
		{0, 200, 0, 20, api.OK}, {199, 200, 0, 20, api.OK}, {400, 900, 0, 20, api.OK}, {199, 201, 0, 20, api.ErrDeny}, {200, 201, 0, 20, api.ErrDeny}, {0, 900, 0, 20, api.ErrDeny}, {0, 1000, 0, 20, api.ErrDeny}, {400, 1000, 0, 30, api.OK}, {200, 300, 9, 30, api.ErrDeny}, {200, 250, 9, 30, api.OK}, {300, 400, 8, 30, api.OK},
		{0, 1001, 0, 20, api.ErrTime}, {5, 5, 0, 20, api.ErrTime}, {6, 5, 0, 20, api.ErrTime}, {-1, 5, 0, 20, api.ErrTime}, {0, 0, 0, 20, api.ErrTime}, {1000, 1001, 0, 20, api.ErrTime}, {math.MinInt, math.MaxInt, 0, 20, api.ErrTime},
		{0, 1001, 0, 19, api.ErrGone}, {0, 0, 0, 40, api.ErrDeny}, {0, 200, 0, 40, api.ErrDeny}, {0, 200, 5, 60, api.ErrGone}, {0, 1001, 8, 40, api.ErrTime},
	} {
		if err := access.May(a, r, api.Span{From: c.from, To: c.to}, api.Viewer{Person: c.person, Day: c.day}); err != c.err {
			t.Errorf("%d: May = %d, want %d", i, err, c.err)
		}
	}
}

// P45.5
func TestDays(t *testing.T) {
	r, a := tape()
	alone := r
	alone.Speakers = []int{9}
	for i, c := range []struct {
		r    api.Recording
		want []int
	}{
		{r, []int{10, 20, 30, 40, 50, 60}}, {numbered(r, 2, "two"), []int{10, 25, 50, 60}}, {numbered(r, 3, "three"), []int{10, 50, 60, 70}}, {alone, []int{15, 30}}, {numbered(alone, 4, "four"), []int{15}},
	} {
		if l := access.Days(a, c.r); !slices.Equal(l, c.want) {
			t.Errorf("%d: Days = %v, want %v", i, l, c.want)
		}
	}
	if l := access.Days(api.Rights{People: a.People}, r); len(l) != 0 {
		t.Error("Days without consents:", l)
	}
}

// The days and times of random rights are small.
const (
	days   = 6
	length = 8
)

// part returns some of the numbers, increasing.
func part(random *rand.Rand, l ...int) []int {
	return slices.DeleteFunc(l, func(int) bool { return random.Intn(2) == 0 })
}

// rightsOf returns right rights for a recording, and for others.
func rightsOf(random *rand.Rand) (api.Recording, api.Rights) {
	var a api.Rights
	for id := 1; id <= 4; id++ {
		a.People = append(a.People, api.Person{Id: id, Name: "p", Member: random.Intn(2) == 0})
	}
	a.Groups = []api.Group{{Id: 1, Name: "g", People: part(random, 1, 2, 3, 4)}, {Id: 2, Name: "h", People: part(random, 1, 2, 3, 4), Subs: part(random, 1)}}
	r := api.Recording{Id: 1, Name: "r", Length: length, Day: 1, Speakers: append([]int{1}, part(random, 2, 3)...)}
	for _, person := range r.Speakers {
		a.Consents = append(a.Consents, api.Consent{Person: person, Day: 1 + random.Intn(2), Kind: api.ConsentAll})
	}
	for range random.Intn(5) {
		a.Consents = append(a.Consents, consentOf(random))
	}
	slices.SortStableFunc(a.Consents, func(c, d api.Consent) int { return cmp.Compare(c.Day, d.Day) })
	for range random.Intn(5) {
		a.Rules = append(a.Rules, ruleOf(random))
	}
	return r, a
}

func consentOf(random *rand.Rand) api.Consent {
	return api.Consent{Person: 1 + random.Intn(4), Rec: random.Intn(3), Day: 1 + random.Intn(days-1), Kind: random.Intn(3)}
}

func ruleOf(random *rand.Rand) api.Rule {
	rule := api.Rule{Rec: 1 + random.Intn(4)/3, Protocol: api.Protocol{Level: random.Intn(4), Until: random.Intn(days)}}
	if rule.Protocol.Level == api.LevelGroups {
		rule.Protocol.Groups = []int{1 + random.Intn(2)}
	}
	if random.Intn(4) > 0 {
		rule.Span.From = random.Intn(length)
		rule.Span.To = rule.Span.From + 1 + random.Intn(length-rule.Span.From)
	}
	return rule
}

// base is that of the definition.
func base(a api.Rights, r api.Recording, v api.Viewer) api.Errno {
	p, _ := media.Person(a.People, v.Person)
	for _, s := range r.Speakers {
		kind := consent.At(a.Consents, s, r.Id, v.Day)
		if kind == api.ConsentNone {
			return api.ErrGone
		}
		if kind == api.ConsentCommunity && !p.Member {
			return api.ErrDeny
		}
	}
	return api.OK
}

// times returns the milliseconds that a viewer may use, from the definition.
func times(a api.Rights, r api.Recording, v api.Viewer) []api.Span {
	var l []api.Span
	for ms := range r.Length {
		open := base(a, r, v) == api.OK
		for _, rule := range a.Rules {
			concerns := rule.Span == api.Span{} || rule.Span.From <= ms && ms < rule.Span.To
			if rule.Rec == r.Id && concerns && !protocol.May(a.People, a.Groups, rule.Protocol, v) {
				open = false
			}
		}
		if open {
			l = append(l, api.Span{From: ms, To: ms + 1})
		}
	}
	return span.Union(l)
}

// P45.2 to P45.6: the definitions and the laws hold of many rights.
func TestManyRights(t *testing.T) {
	random := rand.New(rand.NewSource(45))
	used := 0
	for range 1500 {
		r, a := rightsOf(random)
		if err := access.Check([]api.Recording{r}, a); err != api.OK {
			t.Fatal(r, a, err)
		}
		more := a
		more.Rules = append(slices.Clone(a.Rules), ruleOf(random))
		for person := range 6 {
			var last []api.Span
			for day := range days + 1 {
				v := api.Viewer{Person: person, Day: day}
				l := checkViewer(t, a, r, v)
				if len(span.Minus(access.Spans(more, r, v), l)) > 0 {
					t.Fatalf("a further rule of %v permits %v more", more, v)
				}
				if len(span.Minus(access.Spans(a, r, api.Viewer{Day: day}), l)) > 0 {
					t.Fatalf("by %v, the public may use more than %v", a, v)
				}
				if day > 0 && !slices.Contains(access.Days(a, r), day) && !slices.Equal(l, last) {
					t.Fatalf("by %v, the Spans of %v are new on a day that is none of Days", a, v)
				}
				last = l
				used += len(l)
			}
		}
		checkWithdrawn(t, random, a, r)
	}
	if used < 5000 {
		t.Error("only", used, "spans may be used")
	}
}

// checkViewer compares what a viewer may use with the definition, and returns it.
func checkViewer(t *testing.T, a api.Rights, r api.Recording, v api.Viewer) []api.Span {
	l := access.Spans(a, r, v)
	if want := times(a, r, v); !slices.Equal(l, want) || access.Base(a, r, v) != base(a, r, v) {
		t.Fatalf("Spans of %v by %v: %v, want %v", v, a, l, want)
	}
	for from := -1; from <= length; from++ {
		for to := from; to <= length+1; to++ {
			s := api.Span{From: from, To: to}
			want := base(a, r, v)
			switch {
			case want != api.OK:
			case from < 0 || from == to || to > length:
				want = api.ErrTime
			case len(span.Minus([]api.Span{s}, l)) > 0:
				want = api.ErrDeny
			}
			if err := access.May(a, r, s, v); err != want {
				t.Fatalf("May of %v for %v by %v: %d, want %d", s, v, a, err, want)
			}
		}
	}
	for _, s := range l {
		if access.May(a, r, s, v) != api.OK {
			t.Fatalf("%v may not use %v of the Spans by %v", v, s, a)
		}
	}
	return l
}

// checkWithdrawn checks that nobody may use anything from the day on on which a speaker withdraws.
func checkWithdrawn(t *testing.T, random *rand.Rand, a api.Rights, r api.Recording) {
	c := api.Consent{Person: r.Speakers[random.Intn(len(r.Speakers))], Rec: random.Intn(2), Day: days - 1}
	a.Consents = consent.Give(a.Consents, c)
	for person := range 6 {
		for day := c.Day; day < days+2; day++ {
			v := api.Viewer{Person: person, Day: day}
			if len(access.Spans(a, r, v)) > 0 || access.May(a, r, api.Span{To: 1}, v) == api.OK {
				t.Fatalf("after %v, %v may use something by %v", c, v, a)
			}
		}
	}
}

// R5: results are new memory, and arguments stay as they are.
func TestMemory(t *testing.T) {
	r, a := tape()
	for range 2 {
		clear(access.Spans(a, r, api.Viewer{Day: 20}))
		clear(access.Days(a, r))
		access.Check([]api.Recording{r}, a)
		access.May(a, r, api.Span{To: 5}, api.Viewer{Day: 20})
	}
	kept, b := tape()
	if !slices.Equal(r.Speakers, kept.Speakers) || !slices.Equal(a.People, b.People) || !slices.Equal(a.Consents, b.Consents) || !slices.EqualFunc(a.Rules, b.Rules, func(x, y api.Rule) bool {
		return x.Rec == y.Rec && x.Span == y.Span && protocol.Same(x.Protocol, y.Protocol)
	}) {
		t.Error(r, a)
	}
}

// The functions end for rights that are not right, too.
func TestRightsThatAreNotRight(t *testing.T) {
	r := api.Recording{Id: 1, Length: -5, Speakers: []int{9, 9}}
	a := api.Rights{Groups: []api.Group{{Id: 1, Subs: []int{1}}}, Consents: []api.Consent{{Person: 9, Rec: 1, Kind: 7}}, Rules: []api.Rule{{Rec: 1, Span: api.Span{From: 9, To: 3}, Protocol: api.Protocol{Level: 2, Groups: []int{1}}}, {Rec: 1, Protocol: api.Protocol{Level: -1}}}}
	for _, v := range []api.Viewer{{}, {Person: 9, Day: 5}, {Person: -1, Day: -1}} {
		access.Base(a, r, v)
		access.Spans(a, r, v)
		access.May(a, r, api.Span{To: 1}, v)
	}
	access.Days(a, r)
}
