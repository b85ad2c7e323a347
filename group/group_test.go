package group_test

import (
	"math"
	"slices"
	"strings"
	"testing"

	"langdoc/api"
	"langdoc/group"
)

var people = []api.Person{{Id: 5, Name: "a"}, {Id: 7, Name: "b"}, {Id: 9, Name: "c"}}

// of returns a group.
func of(id int, members, subs []int) api.Group {
	return api.Group{Id: id, Name: "g", People: members, Subs: subs}
}

// chain returns that many groups, each with the next one as its only sub, and with the person 5 in the last one.
func chain(count int) []api.Group {
	var l []api.Group
	for i := range count {
		l = append(l, of(i+1, nil, []int{i + 2}))
	}
	l[count-1].People, l[count-1].Subs = []int{5}, nil
	return l
}

// P42.1
func TestCheck(t *testing.T) {
	for i, c := range []struct {
		l   []api.Group
		err api.Errno
	}{
		{nil, api.OK}, {[]api.Group{of(1, nil, nil)}, api.OK}, {[]api.Group{of(1, []int{5, 7, 9}, nil), of(api.MaxNum, []int{9}, []int{1})}, api.OK}, {[]api.Group{of(1, nil, []int{2, 3}), of(2, nil, []int{3}), of(3, nil, nil)}, api.OK},
		{chain(api.MaxGroups), api.OK}, {chain(api.MaxGroups + 1), api.ErrFull}, {make([]api.Group, api.MaxGroups+1), api.ErrFull}, {make([]api.Group, api.MaxGroups), api.ErrRange},
		{[]api.Group{{Id: 0}}, api.ErrRange}, {[]api.Group{{Id: -1, Name: "g"}}, api.ErrRange}, {[]api.Group{{Id: api.MaxNum + 1}}, api.ErrRange}, {[]api.Group{{Id: math.MinInt}}, api.ErrRange}, {[]api.Group{{Id: math.MaxInt}}, api.ErrRange}, {[]api.Group{of(3, nil, nil), {Id: 0}}, api.ErrRange}, {[]api.Group{of(3, nil, nil), {Id: -5}}, api.ErrRange},
		{[]api.Group{of(3, nil, nil), {Id: 3}}, api.ErrOrder}, {[]api.Group{of(3, nil, nil), {Id: 2}}, api.ErrOrder},
		{[]api.Group{{Id: 1}}, api.ErrName}, {[]api.Group{{Id: 1, Name: "Clan"}}, api.ErrName}, {[]api.Group{{Id: 1, Name: strings.Repeat("g", api.MaxName)}}, api.OK}, {[]api.Group{{Id: 1, Name: strings.Repeat("g", api.MaxName+1), People: []int{7, 5}}}, api.ErrName}, {[]api.Group{of(1, nil, nil), of(2, nil, nil)}, api.OK},
		{[]api.Group{of(1, []int{7, 5}, nil)}, api.ErrOrder}, {[]api.Group{of(1, []int{5, 5}, nil)}, api.ErrOrder}, {[]api.Group{of(1, []int{6, 5}, nil)}, api.ErrOrder}, {[]api.Group{of(1, []int{6, 7, 7}, nil)}, api.ErrOrder},
		{[]api.Group{of(1, []int{6}, nil)}, api.ErrNone}, {[]api.Group{of(1, []int{5, 8, 9}, []int{3, 2})}, api.ErrNone}, {[]api.Group{of(1, []int{0}, nil)}, api.ErrNone}, {[]api.Group{of(1, []int{math.MinInt, 5}, nil)}, api.ErrNone}, {[]api.Group{of(1, []int{5, math.MaxInt}, nil)}, api.ErrNone},
		{[]api.Group{of(1, nil, []int{3, 2})}, api.ErrOrder}, {[]api.Group{of(1, nil, []int{2, 2}), of(2, nil, nil)}, api.ErrOrder},
		{[]api.Group{of(1, nil, []int{2})}, api.ErrNone}, {[]api.Group{of(1, nil, []int{0})}, api.ErrNone}, {[]api.Group{of(1, nil, nil), of(2, nil, []int{1, 3}), of(4, nil, nil)}, api.ErrNone}, {[]api.Group{of(1, nil, []int{math.MinInt, math.MaxInt})}, api.ErrNone},
		{[]api.Group{of(1, nil, []int{1})}, api.ErrCycle}, {[]api.Group{of(1, nil, []int{2}), of(2, nil, []int{1})}, api.ErrCycle}, {[]api.Group{of(1, nil, nil), of(2, nil, []int{3}), of(3, nil, []int{4}), of(4, nil, []int{1, 2})}, api.ErrCycle},
		// All groups by themselves come before their Subs, and these before cycles.
		{[]api.Group{of(1, nil, []int{9}), {Id: 2}}, api.ErrName}, {[]api.Group{of(1, nil, []int{1}), {Id: 1, Name: "g"}}, api.ErrOrder}, {[]api.Group{of(1, nil, []int{1}), of(2, nil, []int{9})}, api.ErrNone}, {[]api.Group{of(1, []int{6}, nil), {Id: 0}}, api.ErrNone}, {[]api.Group{of(1, nil, []int{2, 1}), of(2, []int{6}, nil)}, api.ErrOrder},
	} {
		if err := group.Check(people, c.l); err != c.err {
			t.Errorf("%d: Check = %d, want %d", i, err, c.err)
		}
	}
	if group.Check(nil, []api.Group{of(1, nil, nil)}) != api.OK || group.Check(nil, []api.Group{of(1, []int{5}, nil)}) != api.ErrNone {
		t.Error("Check without persons")
	}
}

// P42.2, P42.3
func TestAsks(t *testing.T) {
	l := []api.Group{of(2, []int{5}, []int{4, 30}), of(4, []int{7}, nil), of(6, nil, nil), of(30, []int{7, 9}, []int{4}), of(31, nil, []int{2, 6})}
	if err := group.Check(people, l); err != api.OK {
		t.Fatal(err)
	}
	for id, want := range map[int][2][]int{2: {{4, 30}, {5, 7, 9}}, 4: {nil, {7}}, 6: {nil, nil}, 30: {{4}, {7, 9}}, 31: {{2, 4, 6, 30}, {5, 7, 9}}, 0: {}, 3: {}, -1: {}, math.MaxInt: {}, math.MinInt: {}} {
		below, members := group.Below(l, id), group.Members(l, id)
		if !slices.Equal(below, want[0]) || !slices.Equal(members, want[1]) {
			t.Errorf("group %d: Below %v, Members %v", id, below, members)
		}
		for _, person := range []int{5, 7, 9, 8, 0, -1, math.MaxInt} {
			if in := group.In(l, id, person); in != slices.Contains(want[1], person) {
				t.Errorf("In of %d and %d is %t", id, person, in)
			}
		}
	}
	for person, want := range map[int][]int{5: {2, 31}, 7: {2, 4, 30, 31}, 9: {2, 30, 31}, 8: nil, 0: nil, math.MinInt: nil} {
		if ids := group.Of(l, person); !slices.Equal(ids, want) {
			t.Errorf("Of %d: %v", person, ids)
		}
	}
	if len(group.Below(nil, 1)) != 0 || len(group.Members(nil, 1)) != 0 || group.In(nil, 1, 5) || len(group.Of(nil, 5)) != 0 {
		t.Error("no groups")
	}
}

// P42.2: a long way, and many ways to one group.
func TestManyWays(t *testing.T) {
	l := chain(api.MaxGroups)
	for i := range l {
		l[i].Subs = nil
		for sub := i + 2; sub <= len(l); sub++ {
			l[i].Subs = append(l[i].Subs, sub)
		}
	}
	if err := group.Check(people, l); err != api.OK {
		t.Fatal(err)
	}
	for _, l := range [][]api.Group{l, chain(api.MaxGroups)} {
		if below, members := group.Below(l, 1), group.Members(l, 1); len(below) != api.MaxGroups-1 || below[0] != 2 || !slices.Equal(members, []int{5}) {
			t.Error(below, members)
		}
	}
}

// graphs calls do with all lists of three groups with the Ids 1 to 3, which have a person each.
func graphs(do func(l []api.Group)) {
	for bits := range 1 << 9 {
		l := []api.Group{of(1, []int{5}, nil), of(2, []int{7}, nil), of(3, []int{9}, nil)}
		for i := range 9 {
			if bits>>i&1 == 1 {
				l[i/3].Subs = append(l[i/3].Subs, i%3+1)
			}
		}
		do(l)
	}
}

// P42.1 to P42.3, of all graphs of three groups, from the definition.
func TestGraphs(t *testing.T) {
	right := 0
	graphs(func(l []api.Group) {
		var reached [4][4]bool
		for range 3 {
			for i, g := range l {
				for _, sub := range g.Subs {
					for k := range 4 {
						reached[i+1][k] = reached[i+1][k] || k == sub || reached[sub][k]
					}
				}
			}
		}
		cycle := reached[1][1] || reached[2][2] || reached[3][3]
		err := group.Check(people, l)
		if cycle != (err == api.ErrCycle) || !cycle != (err == api.OK) {
			t.Fatalf("Check(%v) = %d", l, err)
		}
		if cycle {
			return
		}
		right++
		for i := 1; i <= 3; i++ {
			var below, members []int
			for k := 1; k <= 3; k++ {
				if reached[i][k] {
					below = append(below, k)
				}
				if reached[i][k] || k == i {
					members = append(members, 3+2*k)
				}
			}
			if !slices.Equal(group.Below(l, i), below) || !slices.Equal(group.Members(l, i), members) {
				t.Fatalf("%v: Below %v, Members %v of %d", l, group.Below(l, i), group.Members(l, i), i)
			}
		}
	})
	if right != 25 {
		t.Errorf("%d graphs have no cycle", right)
	}
}

// P42.4
func TestLaws(t *testing.T) {
	graphs(func(l []api.Group) {
		if group.Check(people, l) != api.OK {
			return
		}
		for _, a := range l {
			below := group.Below(l, a.Id)
			for _, id := range below {
				if id == a.Id || slices.Contains(group.Below(l, id), a.Id) {
					t.Fatalf("%v: %d is below itself", l, a.Id)
				}
				for _, person := range group.Members(l, id) {
					if !group.In(l, a.Id, person) {
						t.Fatalf("%v: %d is a member of %d, but not of %d", l, person, id, a.Id)
					}
				}
			}
			checkFurther(t, l, a.Id)
		}
	})
}

// checkFurther puts the person 11 into a group.
func checkFurther(t *testing.T, l []api.Group, id int) {
	more := append(slices.Clone(people), api.Person{Id: 11, Name: "d"})
	changed := slices.Clone(l)
	changed[id-1].People = append(slices.Clone(changed[id-1].People), 11)
	if err := group.Check(more, changed); err != api.OK {
		t.Fatal(err)
	}
	for _, g := range l {
		want := group.Members(l, g.Id)
		if g.Id == id || slices.Contains(group.Below(l, g.Id), id) {
			want = append(want, 11)
		}
		if members := group.Members(changed, g.Id); !slices.Equal(members, want) {
			t.Fatalf("%v: the members of %d are %v, after 11 was put into %d", l, g.Id, members, id)
		}
	}
}

// R5: what is returned is new memory, and arguments stay as they are.
func TestMemory(t *testing.T) {
	l := []api.Group{of(1, []int{5, 7}, []int{2, 3}), of(2, nil, nil), of(3, nil, nil)}
	clear(group.Members(l, 1))
	clear(group.Below(l, 1))
	clear(group.Of(l, 5))
	if !slices.Equal(l[0].People, []int{5, 7}) || !slices.Equal(l[0].Subs, []int{2, 3}) {
		t.Error(l)
	}
}
