package consent_test

import (
	"math"
	"math/rand"
	"slices"
	"testing"

	"langdoc/api"
	"langdoc/consent"
)

var people = []api.Person{{Id: 2, Name: "Ana"}, {Id: 5, Name: "Ben"}}

// of returns a consent.
func of(person, rec, day, kind int) api.Consent {
	return api.Consent{Person: person, Rec: rec, Day: day, Kind: kind}
}

// P43.1
func TestCheck(t *testing.T) {
	one := of(2, 3, 9, api.ConsentAll)
	for i, c := range []struct {
		l   []api.Consent
		err api.Errno
	}{
		{nil, api.OK}, {[]api.Consent{one}, api.OK}, {slices.Repeat([]api.Consent{one}, api.MaxRights), api.OK}, {slices.Repeat([]api.Consent{one}, api.MaxRights+1), api.ErrFull}, {make([]api.Consent, api.MaxRights+1), api.ErrFull}, {make([]api.Consent, api.MaxRights), api.ErrNone},
		{[]api.Consent{of(3, 3, 9, 0)}, api.ErrNone}, {[]api.Consent{of(0, -1, 0, -1)}, api.ErrNone}, {[]api.Consent{of(math.MinInt, 3, 9, 0)}, api.ErrNone}, {[]api.Consent{of(5, 3, 9, 0), of(4, 3, 9, 0)}, api.ErrNone},
		{[]api.Consent{of(2, 0, 9, 0)}, api.OK}, {[]api.Consent{of(2, api.MaxNum, 9, 0)}, api.OK}, {[]api.Consent{of(2, -1, 0, -1)}, api.ErrRange}, {[]api.Consent{of(2, api.MaxNum+1, 0, 9)}, api.ErrRange}, {[]api.Consent{of(2, math.MinInt, 9, 0)}, api.ErrRange}, {[]api.Consent{of(2, math.MaxInt, 9, 0)}, api.ErrRange},
		{[]api.Consent{of(2, 3, 1, 0)}, api.OK}, {[]api.Consent{of(2, 3, api.MaxDay, 0)}, api.OK}, {[]api.Consent{of(2, 3, 0, 9)}, api.ErrTime}, {[]api.Consent{of(2, 3, -1, 0)}, api.ErrTime}, {[]api.Consent{of(2, 3, api.MaxDay+1, -1)}, api.ErrTime}, {[]api.Consent{one, of(2, 3, 0, 0)}, api.ErrTime}, {[]api.Consent{of(2, 3, math.MaxInt, 0)}, api.ErrTime}, {[]api.Consent{of(2, 3, math.MinInt, 0)}, api.ErrTime},
		{[]api.Consent{of(2, 3, 9, api.ConsentCommunity)}, api.OK}, {[]api.Consent{of(2, 3, 9, -1)}, api.ErrKind}, {[]api.Consent{of(2, 3, 9, api.ConsentAll+1)}, api.ErrKind}, {[]api.Consent{one, of(2, 3, 8, 3)}, api.ErrKind}, {[]api.Consent{of(2, 3, 9, math.MinInt)}, api.ErrKind},
		{[]api.Consent{one, of(5, 3, 8, 0)}, api.ErrOrder}, {[]api.Consent{one, one, of(2, 0, 10, 0), of(5, 0, 10, 0)}, api.OK}, {[]api.Consent{one, of(2, 0, 11, 0), of(2, 0, 10, 0)}, api.ErrOrder},
		// The first consent with an error decides.
		{[]api.Consent{of(2, 3, 9, 3), of(3, 3, 9, 0)}, api.ErrKind}, {[]api.Consent{one, of(2, 3, 8, 0), of(3, 3, 9, 0)}, api.ErrOrder},
	} {
		if err := consent.Check(people, c.l); err != c.err {
			t.Errorf("%d: Check = %d, want %d", i, err, c.err)
		}
	}
	if consent.Check(nil, nil) != api.OK || consent.Check(nil, []api.Consent{one}) != api.ErrNone {
		t.Error("Check without persons")
	}
}

// history has consents of two persons for all recordings, and for the recordings 3 and 4.
var history = []api.Consent{of(2, 0, 10, api.ConsentAll), of(5, 3, 15, api.ConsentCommunity), of(2, 3, 20, api.ConsentNone), of(2, 3, 20, api.ConsentCommunity), of(5, 0, 25, api.ConsentAll), of(2, 4, 30, api.ConsentNone), of(2, 0, 40, api.ConsentNone), of(5, 3, 40, api.ConsentNone), of(5, 3, 40, api.ConsentAll)}

// P43.2
func TestAt(t *testing.T) {
	for _, c := range []struct{ person, rec, day, want int }{
		{2, 3, 9, 0}, {2, 3, 10, 2}, {2, 3, 19, 2}, {2, 3, 20, 1}, {2, 3, 39, 1}, {2, 3, 40, 0}, {2, 3, api.MaxDay, 0},
		{2, 4, 20, 2}, {2, 4, 29, 2}, {2, 4, 30, 0}, {2, 4, 40, 0}, {2, 9, 30, 2}, {2, 9, 40, 0}, {2, 0, 20, 2}, {2, 0, 30, 2}, {2, 0, 40, 0}, {2, -1, 39, 2}, {2, math.MaxInt, 39, 2},
		{5, 3, 14, 0}, {5, 3, 15, 1}, {5, 4, 15, 0}, {5, 3, 25, 2}, {5, 4, 25, 2}, {5, 3, 40, 2}, {5, 0, 24, 0}, {5, 0, 25, 2},
		{7, 3, 30, 0}, {0, 3, 30, 0}, {-1, 0, 30, 0}, {2, 3, 0, 0}, {2, 3, -7, 0}, {2, 3, math.MinInt, 0}, {5, 3, math.MaxInt, 2}, {2, 9, 1 << 50, 0},
	} {
		if kind := consent.At(history, c.person, c.rec, c.day); kind != c.want {
			t.Errorf("At of %d, %d, %d: %d", c.person, c.rec, c.day, kind)
		}
	}
	if consent.At(nil, 2, 3, 10) != api.ConsentNone {
		t.Error("no consents")
	}
	example := []api.Consent{of(2, 0, 10, api.ConsentAll), of(2, 3, 20, api.ConsentNone)}
	for day := range 30 {
		want := api.ConsentNone
		if day >= 10 && day < 20 {
			want = api.ConsentAll
		}
		if kind := consent.At(example, 2, 3, day); kind != want {
			t.Errorf("At on the day %d: %d", day, kind)
		}
	}
}

// P43.3, P43.5
func TestLeastAndDays(t *testing.T) {
	for i, c := range []struct {
		r     api.Recording
		kinds map[int]int
		days  []int
	}{
		{api.Recording{Id: 3, Speakers: []int{2, 5}}, map[int]int{10: 0, 14: 0, 15: 1, 20: 1, 25: 1, 39: 1, 40: 0}, []int{15, 40}},
		{api.Recording{Id: 4, Speakers: []int{2, 5}}, map[int]int{24: 0, 25: 2, 29: 2, 30: 0}, []int{25, 30}},
		{api.Recording{Id: 3, Speakers: []int{2}}, map[int]int{9: 0, 10: 2, 19: 2, 20: 1, 39: 1, 40: 0}, []int{10, 20, 40}},
		{api.Recording{Id: 3, Speakers: []int{5}}, map[int]int{14: 0, 15: 1, 25: 2, 40: 2}, []int{15, 25}},
		{api.Recording{Id: 9, Speakers: []int{5}}, map[int]int{24: 0, 25: 2}, []int{25}},
		{api.Recording{Id: 3}, map[int]int{10: 0, 15: 0, 25: 0}, nil}, {api.Recording{}, map[int]int{25: 0}, nil},
		{api.Recording{Id: 3, Speakers: []int{2, 5, 9}}, map[int]int{15: 0, 25: 0}, nil}, {api.Recording{Id: 3, Speakers: []int{9}}, map[int]int{25: 0}, nil},
	} {
		for day, want := range c.kinds {
			if kind := consent.Least(history, c.r, day); kind != want {
				t.Errorf("%d: Least on the day %d: %d", i, day, kind)
			}
		}
		if consent.Least(history, c.r, 0) != api.ConsentNone || consent.Least(history, c.r, math.MinInt) != api.ConsentNone {
			t.Errorf("%d: Least before the first day", i)
		}
		if days := consent.Days(history, c.r); !slices.Equal(days, c.days) {
			t.Errorf("%d: Days %v", i, days)
		}
	}
	r := api.Recording{Id: 1, Speakers: []int{2}}
	if days := consent.Days([]api.Consent{of(2, 0, 1, 2), of(2, 1, api.MaxDay, 1)}, r); !slices.Equal(days, []int{1, api.MaxDay}) {
		t.Errorf("the first and the last day: %v", days)
	}
	if days := consent.Days([]api.Consent{of(2, 0, 7, 2), of(2, 1, 7, 0)}, r); len(days) != 0 {
		t.Errorf("consent for a part of a day: %v", days)
	}
	if days := consent.Days(nil, r); len(days) != 0 {
		t.Errorf("no consents: %v", days)
	}
}

// P43.4
func TestGive(t *testing.T) {
	a, b, c, d := of(2, 0, 10, 2), of(2, 3, 20, 0), of(5, 0, 20, 1), of(2, 0, 30, 1)
	for i, x := range []struct {
		l    []api.Consent
		c    api.Consent
		want []api.Consent
	}{
		{nil, a, []api.Consent{a}}, {[]api.Consent{a}, b, []api.Consent{a, b}}, {[]api.Consent{b}, a, []api.Consent{a, b}}, {[]api.Consent{a, d}, b, []api.Consent{a, b, d}}, {[]api.Consent{a, b, d}, c, []api.Consent{a, b, c, d}}, {[]api.Consent{a, c, d}, b, []api.Consent{a, c, b, d}}, {[]api.Consent{b, c}, b, []api.Consent{b, c, b}},
	} {
		// There is room behind the list, which Give does not use.
		l := append(make([]api.Consent, 0, 10), x.l...)
		if given := consent.Give(l, x.c); !slices.Equal(given, x.want) {
			t.Errorf("%d: Give = %v", i, given)
		}
		if !slices.Equal(l, x.l) || l[:cap(l)][len(l)] != (api.Consent{}) {
			t.Errorf("%d: Give has changed its argument: %v", i, l[:cap(l)])
		}
	}
}

// Days of the small histories, which have recordings and persons up to 2, too.
const lastDay = 4

// some returns consents that Check accepts.
func some(random *rand.Rand) []api.Consent {
	var l []api.Consent
	day := 1
	for range random.Intn(7) {
		day += random.Intn(2) * random.Intn(lastDay)
		if day > lastDay {
			break
		}
		l = append(l, of(1+random.Intn(2), random.Intn(3), day, random.Intn(3)))
	}
	return l
}

// speakers are two persons, and two recordings in which one or both of them speak.
var (
	speakers = []api.Person{{Id: 1, Name: "Ana"}, {Id: 2, Name: "Ben"}}
	recs     = []api.Recording{{Id: 1, Speakers: []int{1}}, {Id: 2, Speakers: []int{1, 2}}}
)

// P43.2, P43.3, P43.5, of many small histories, from the definitions.
func TestDefinitions(t *testing.T) {
	random := rand.New(rand.NewSource(43))
	for range 3000 {
		l := some(random)
		if err := consent.Check(speakers, l); err != api.OK {
			t.Fatal(l, err)
		}
		for _, r := range recs {
			var days []int
			before := api.ConsentNone
			for day := range lastDay + 2 {
				least := api.ConsentAll
				for _, person := range r.Speakers {
					kind := api.ConsentNone
					for _, c := range l {
						if c.Person == person && (c.Rec == 0 || c.Rec == r.Id) && c.Day <= day {
							kind = c.Kind
						}
					}
					if at := consent.At(l, person, r.Id, day); at != kind {
						t.Fatalf("%v: At of %d, %d, %d: %d", l, person, r.Id, day, at)
					}
					least = min(least, kind)
				}
				if got := consent.Least(l, r, day); got != least {
					t.Fatalf("%v: Least of %v on %d: %d", l, r, day, got)
				}
				if least != before {
					days = append(days, day)
				}
				before = least
			}
			if got := consent.Days(l, r); !slices.Equal(got, days) {
				t.Fatalf("%v: Days of %v: %v, want %v", l, r, got, days)
			}
		}
	}
}

// P43.6
func TestLaws(t *testing.T) {
	random := rand.New(rand.NewSource(436))
	for range 2000 {
		l := some(random)
		c := of(1+random.Intn(2), random.Intn(3), 1+random.Intn(lastDay), random.Intn(3))
		given := consent.Give(l, c)
		if err := consent.Check(speakers, given); err != api.OK || len(given) != len(l)+1 {
			t.Fatalf("Check of Give(%v, %v) = %d", l, c, err)
		}
		for person := 1; person <= 2; person++ {
			for rec := range 4 {
				for day := range lastDay + 2 {
					before, after := consent.At(l, person, rec, day), consent.At(given, person, rec, day)
					concerned := day >= c.Day && person == c.Person && (c.Rec == 0 || rec == c.Rec)
					if before != after && (!concerned || after != c.Kind) {
						t.Fatalf("%v, %v: At of %d, %d, %d is %d, and was %d", l, c, person, rec, day, after, before)
					}
				}
			}
		}
		checkWithdrawn(t, given, random)
	}
	full := slices.Repeat([]api.Consent{of(1, 0, 5, 2)}, api.MaxRights-1)
	for day := 4; day <= 6; day++ {
		if err := consent.Check(speakers, consent.Give(full, of(2, 0, day, 0))); err != api.OK {
			t.Errorf("the last consent that there is room for: %d", err)
		}
	}
}

// checkWithdrawn withdraws everything of the person 1, and checks the days until the next consent of this speaker.
func checkWithdrawn(t *testing.T, l []api.Consent, random *rand.Rand) {
	w := of(1, 0, 1+random.Intn(lastDay), api.ConsentNone)
	l = consent.Give(l, w)
	next := lastDay + 2
	for _, c := range l {
		if c.Person == 1 && c.Day > w.Day {
			next = min(next, c.Day)
		}
	}
	for day := w.Day; day < next; day++ {
		for rec := range 4 {
			if consent.At(l, 1, rec, day) != api.ConsentNone {
				t.Fatalf("%v: At of 1, %d, %d", l, rec, day)
			}
		}
		for _, r := range recs {
			if consent.Least(l, r, day) != api.ConsentNone {
				t.Fatalf("%v: Least of %v on %d", l, r, day)
			}
		}
	}
}
