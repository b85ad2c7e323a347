package protocol_test

import (
	"math"
	"slices"
	"testing"

	"langdoc/api"
	"langdoc/group"
	"langdoc/media"
	"langdoc/protocol"
)

// The person 5 is in the group 1 alone, 6 in the group 4 and with it in 1, 7 in 3; 8 is in none. 6 and 8 are no members of the community.
var people = []api.Person{{Id: 5, Name: "a", Member: true}, {Id: 6, Name: "b"}, {Id: 7, Name: "c", Member: true}, {Id: 8, Name: "d"}}

var groups = []api.Group{{Id: 1, Name: "elders", People: []int{5}, Subs: []int{4}}, {Id: 3, Name: "clan", People: []int{7}}, {Id: 4, Name: "kin", People: []int{6}}}

// of returns a protocol.
func of(level, until int, ids ...int) api.Protocol {
	return api.Protocol{Level: level, Groups: ids, Until: until}
}

func TestExample(t *testing.T) {
	if media.People(people) != api.OK || group.Check(people, groups) != api.OK {
		t.Error("the persons and groups of the tests are not right")
	}
}

// P44.1
func TestCheck(t *testing.T) {
	many := make([]int, 1000)
	for i := range many {
		many[i] = i + 1
	}
	for i, c := range []struct {
		p   api.Protocol
		err api.Errno
	}{
		{of(api.LevelOpen, 0), api.OK}, {of(api.LevelCommunity, 1), api.OK}, {of(api.LevelClosed, api.MaxDay), api.OK}, {of(api.LevelGroups, 0, 1), api.OK}, {of(api.LevelGroups, 7, 1, 3, 4), api.OK}, {api.Protocol{Groups: []int{}}, api.OK},
		{of(-1, 0), api.ErrKind}, {of(4, 0), api.ErrKind}, {of(math.MinInt, -1, 9, 1), api.ErrKind}, {of(math.MaxInt, -1), api.ErrKind},
		{of(api.LevelOpen, 0, 1), api.ErrArg}, {of(api.LevelCommunity, 0, 1), api.ErrArg}, {of(api.LevelClosed, -1, 4, 1), api.ErrArg}, {of(api.LevelOpen, -1, 9), api.ErrArg},
		{of(api.LevelGroups, 0), api.ErrShort}, {of(api.LevelGroups, -1), api.ErrShort},
		{of(api.LevelGroups, 0, 3, 1), api.ErrOrder}, {of(api.LevelGroups, 0, 3, 3), api.ErrOrder}, {of(api.LevelGroups, -1, 1, 4, 2), api.ErrOrder}, {of(api.LevelGroups, 0, 1, -5), api.ErrOrder}, {of(api.LevelGroups, 0, 1, 1, 2), api.ErrOrder},
		{of(api.LevelGroups, 0, 2), api.ErrNone}, {of(api.LevelGroups, 0, 0), api.ErrNone}, {of(api.LevelGroups, 0, -1, 1), api.ErrNone}, {of(api.LevelGroups, -1, 1, 3, 5), api.ErrNone}, {of(api.LevelGroups, 0, 2, 1), api.ErrNone}, {of(api.LevelGroups, 0, math.MinInt), api.ErrNone}, {of(api.LevelGroups, 0, 1, math.MaxInt), api.ErrNone}, {of(api.LevelGroups, 0, many...), api.ErrNone},
		{of(api.LevelOpen, -1), api.ErrTime}, {of(api.LevelClosed, api.MaxDay+1), api.ErrTime}, {of(api.LevelGroups, math.MinInt, 1), api.ErrTime}, {of(api.LevelCommunity, math.MaxInt), api.ErrTime}, {of(api.LevelGroups, api.MaxDay, 1), api.OK},
	} {
		if err := protocol.Check(groups, c.p); err != c.err {
			t.Errorf("%d: Check = %d, want %d", i, err, c.err)
		}
	}
	// Of groups in any order, and without groups.
	if protocol.Check([]api.Group{{Id: 9}, {Id: -2}, {Id: 9}}, of(api.LevelGroups, 0, -2, 9)) != api.OK || protocol.Check(nil, of(api.LevelGroups, 0, 1)) != api.ErrNone || protocol.Check(nil, of(api.LevelClosed, 0)) != api.OK {
		t.Error("Check of other groups")
	}
}

// P44.2
func TestMay(t *testing.T) {
	for i, c := range []struct {
		p       api.Protocol
		persons []int // those who may
	}{
		{of(api.LevelOpen, 10), []int{0, 5, 6, 7, 8, 9}}, {of(api.LevelCommunity, 10), []int{5, 7}}, {of(api.LevelClosed, 10), nil}, {of(api.LevelGroups, 10, 1), []int{5, 6}}, {of(api.LevelGroups, 10, 3), []int{7}}, {of(api.LevelGroups, 10, 4), []int{6}}, {of(api.LevelGroups, 10, 3, 4), []int{6, 7}}, {of(api.LevelGroups, 10, 1, 3, 4), []int{5, 6, 7}},
	} {
		if err := protocol.Check(groups, c.p); err != api.OK {
			t.Fatal(i, err)
		}
		for _, person := range []int{0, 5, 6, 7, 8, 9, -1, math.MaxInt, math.MinInt} {
			permitted := slices.Contains(c.persons, person) || c.p.Level == api.LevelOpen
			for day, open := range map[int]bool{math.MinInt: false, -1: false, 0: false, 9: false, 10: true, 11: true, api.MaxDay: true, math.MaxInt: true} {
				v := api.Viewer{Person: person, Day: day}
				if may := protocol.May(people, groups, c.p, v); may != (open && permitted) {
					t.Errorf("%d: May of %v: %t", i, v, may)
				}
			}
		}
	}
	if protocol.May(nil, nil, of(api.LevelCommunity, 0), api.Viewer{}) || !protocol.May(nil, nil, of(api.LevelOpen, 0), api.Viewer{}) {
		t.Error("May without persons")
	}
}

// P44.2
func TestAll(t *testing.T) {
	v := api.Viewer{Person: 5, Day: 10}
	open, community, clan, later := of(api.LevelOpen, 0), of(api.LevelCommunity, 5), of(api.LevelGroups, 0, 3), of(api.LevelOpen, 11)
	for i, c := range []struct {
		l    []api.Protocol
		want bool
	}{
		{nil, true}, {[]api.Protocol{}, true}, {[]api.Protocol{open}, true}, {[]api.Protocol{open, community, of(api.LevelGroups, 10, 1)}, true}, {[]api.Protocol{clan}, false}, {[]api.Protocol{clan, open}, false}, {[]api.Protocol{open, community, clan}, false}, {[]api.Protocol{open, later, open}, false}, {[]api.Protocol{of(api.LevelClosed, 0)}, false},
	} {
		if all := protocol.All(people, groups, c.l, v); all != c.want {
			t.Errorf("%d: All: %t", i, all)
		}
	}
}

// P44.3
func TestWider(t *testing.T) {
	open, community, closed := of(api.LevelOpen, 0), of(api.LevelCommunity, 0), of(api.LevelClosed, 0)
	both, one := of(api.LevelGroups, 0, 1, 2), of(api.LevelGroups, 0, 2)
	for i, c := range []struct {
		a, b api.Protocol
		want bool
	}{
		{open, open, true}, {open, community, true}, {open, both, true}, {open, closed, true}, {community, closed, true}, {both, closed, true}, {closed, closed, true}, {closed, open, false}, {closed, community, false}, {closed, both, false}, {community, open, false}, {both, open, false},
		{community, community, true}, {community, one, false}, {one, community, false}, {one, one, true}, {both, one, true}, {one, both, false}, {of(api.LevelGroups, 0, 1, 2, 3, 4), of(api.LevelGroups, 0, 2, 4), true}, {of(api.LevelGroups, 0, 1, 3), of(api.LevelGroups, 0, 2, 4), false},
		{of(api.LevelOpen, 5), of(api.LevelOpen, 5), true}, {of(api.LevelOpen, 5), of(api.LevelOpen, 4), false}, {of(api.LevelOpen, 4), of(api.LevelOpen, 5), true}, {of(api.LevelOpen, 5), of(api.LevelClosed, 4), false}, {of(api.LevelGroups, 4, 1), of(api.LevelGroups, 5, 1), true}, {of(api.LevelGroups, 5, 1), of(api.LevelGroups, 4, 1), false},
		// Of protocols that are not right, too.
		{of(-1, 0), of(-1, 0), false}, {of(7, 0), closed, true}, {open, of(7, 0), true}, {of(7, 0), open, false}, {of(api.LevelCommunity, 0, 1), of(api.LevelCommunity, 0, 2), true}, {of(api.LevelGroups, 0), of(api.LevelGroups, 0), true}, {of(api.LevelGroups, 0, 2, 1, 2), of(api.LevelGroups, 0, 2, 2), true}, {of(api.LevelGroups, 0, 2, 1), of(api.LevelGroups, 0, 3), false}, {of(api.LevelOpen, math.MinInt), of(api.LevelOpen, math.MaxInt), true},
	} {
		if wider := protocol.Wider(c.a, c.b); wider != c.want {
			t.Errorf("%d: Wider: %t", i, wider)
		}
	}
}

// P44.4
func TestSame(t *testing.T) {
	p := of(api.LevelGroups, 5, 1, 3)
	if !protocol.Same(p, of(api.LevelGroups, 5, 1, 3)) || !protocol.Same(api.Protocol{}, api.Protocol{Groups: []int{}}) || !protocol.Same(of(-9, -9, 2, 1), of(-9, -9, 2, 1)) {
		t.Error("equal protocols")
	}
	for i, q := range []api.Protocol{of(api.LevelClosed, 5, 1, 3), of(api.LevelGroups, 6, 1, 3), of(api.LevelGroups, 5, 1), of(api.LevelGroups, 5, 3, 1), of(api.LevelGroups, 5, 1, 4), of(api.LevelGroups, 5)} {
		if protocol.Same(p, q) || protocol.Same(q, p) {
			t.Errorf("protocol %d", i)
		}
	}
}

// all returns all right protocols with a few days.
func all() []api.Protocol {
	var l []api.Protocol
	for _, until := range []int{0, 1, 3} {
		l = append(l, of(api.LevelOpen, until), of(api.LevelCommunity, until), of(api.LevelClosed, until))
		for _, ids := range [][]int{{1}, {3}, {4}, {1, 3}, {1, 4}, {3, 4}, {1, 3, 4}} {
			l = append(l, of(api.LevelGroups, until, ids...))
		}
	}
	return l
}

// P44.5
func TestLaws(t *testing.T) {
	l := all()
	for _, a := range l {
		if protocol.Check(groups, a) != api.OK || !protocol.Wider(a, a) {
			t.Fatalf("%v is not right, or not Wider than itself", a)
		}
		for _, b := range l {
			if !protocol.Wider(a, b) {
				continue
			}
			checkWider(t, a, b)
			for _, c := range l {
				if protocol.Wider(b, c) && !protocol.Wider(a, c) {
					t.Fatalf("Wider is not transitive for %v, %v and %v", a, b, c)
				}
			}
		}
		for person := range 10 {
			checkEmbargo(t, a, person)
		}
	}
}

// checkWider checks that whoever may under b may under a.
func checkWider(t *testing.T, a, b api.Protocol) {
	for person := range 10 {
		for day := -1; day < 5; day++ {
			v := api.Viewer{Person: person, Day: day}
			if protocol.May(people, groups, b, v) && !protocol.May(people, groups, a, v) {
				t.Fatalf("%v is Wider than %v, but %v may only under the latter", a, b, v)
			}
		}
	}
}

// checkEmbargo checks that what a person may is may from the day Until on, and that nobody but members may what is under LevelCommunity.
func checkEmbargo(t *testing.T, p api.Protocol, person int) {
	ever := protocol.May(people, groups, p, api.Viewer{Person: person, Day: api.MaxDay})
	for day := -1; day < 6; day++ {
		if may := protocol.May(people, groups, p, api.Viewer{Person: person, Day: day}); may != (ever && day >= p.Until) {
			t.Fatalf("under %v, May of %d on the day %d is %t", p, person, day, may)
		}
	}
	if found, _ := media.Person(people, person); ever && p.Level == api.LevelCommunity && !found.Member {
		t.Fatalf("%d may under %v", person, p)
	}
}

// R5: arguments stay as they are.
func TestMemory(t *testing.T) {
	a, b := of(api.LevelGroups, 0, 3, 1, 1), of(api.LevelGroups, 0, 1, 3)
	l := []api.Group{{Id: 3, Name: "b", People: []int{7}}, {Id: 1, Name: "a"}}
	protocol.Check(l, b)
	protocol.Wider(a, b)
	protocol.May(people, l, b, api.Viewer{Person: 7})
	if !slices.Equal(a.Groups, []int{3, 1, 1}) || !slices.Equal(b.Groups, []int{1, 3}) || l[0].Id != 3 || l[1].Id != 1 {
		t.Error(a, b, l)
	}
}

// May ends for protocols that are not right, too.
func TestProtocolsThatAreNotRight(t *testing.T) {
	cycle := []api.Group{{Id: 1, Subs: []int{1, 2}}}
	for _, p := range []api.Protocol{of(-1, 0), of(9, 0, 1), of(api.LevelGroups, 0), of(api.LevelGroups, 0, 2, 1, 9)} {
		if protocol.May(people, cycle, p, api.Viewer{Person: 5}) || protocol.All(people, cycle, []api.Protocol{p}, api.Viewer{}) {
			t.Errorf("May of %v", p)
		}
	}
}
