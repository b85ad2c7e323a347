package tiertype_test

import (
	"math"
	"math/rand"
	"slices"
	"strings"
	"testing"

	"langdoc/api"
	"langdoc/tiertype"
)

// tier returns a tier without a role.
func tier(name string, kind, parent int) api.Tier {
	return api.Tier{Name: name, Kind: kind, Parent: parent}
}

// with returns a tier with a role.
func with(t api.Tier, role int) api.Tier {
	t.Role = role
	return t
}

// roots returns that many root tiers.
func roots(count int) []api.Tier {
	var l []api.Tier
	for i := range count {
		l = append(l, tier("t"+string(rune('a'+i)), api.TierRoot, -1))
	}
	return l
}

// P11.1
func TestCheck(t *testing.T) {
	text := with(tier("text", api.TierRoot, -1), api.RoleText)
	word := with(tier("word", api.TierWithin, 0), api.RoleWord)
	morph := with(tier("morph", api.TierSeries, 1), api.RoleMorph)
	root, label := tier("root", api.TierRoot, -1), tier("label", api.TierLabel, 0)
	for i, c := range []struct {
		l   []api.Tier
		err api.Errno
	}{
		{nil, api.OK}, {[]api.Tier{}, api.OK}, {roots(api.MaxTiers), api.OK}, {roots(api.MaxTiers + 1), api.ErrFull}, {make([]api.Tier, api.MaxTiers+1), api.ErrFull}, {make([]api.Tier, api.MaxTiers), api.ErrName},
		// 1
		{[]api.Tier{tier("", api.TierRoot, -1)}, api.ErrName}, {[]api.Tier{tier("A", 9, 9)}, api.ErrName}, {[]api.Tier{tier("1", 9, 9)}, api.ErrName}, {[]api.Tier{tier(strings.Repeat("a", api.MaxName+1), api.TierRoot, -1)}, api.ErrName}, {[]api.Tier{tier(strings.Repeat("a", api.MaxName), api.TierRoot, -1)}, api.OK},
		{[]api.Tier{root, root}, api.ErrTwice}, {[]api.Tier{root, tier("root", 9, 9)}, api.ErrTwice}, {[]api.Tier{root, label, tier("root", api.TierLabel, 1)}, api.ErrTwice},
		// 2
		{[]api.Tier{tier("a", -1, -1)}, api.ErrKind}, {[]api.Tier{tier("a", api.TierLabel+1, -1)}, api.ErrKind}, {[]api.Tier{with(tier("a", math.MaxInt, -1), 9)}, api.ErrKind}, {[]api.Tier{with(tier("a", math.MinInt, 5), -1)}, api.ErrKind},
		// 3
		{[]api.Tier{with(root, api.RoleFree+1)}, api.ErrRange}, {[]api.Tier{with(root, -1)}, api.ErrRange}, {[]api.Tier{with(tier("a", api.TierRoot, 5), math.MinInt)}, api.ErrRange}, {[]api.Tier{with(tier("a", api.TierLabel, -1), math.MaxInt)}, api.ErrRange},
		{[]api.Tier{text, with(root, api.RoleText)}, api.ErrTwice}, {[]api.Tier{text, with(tier("b", api.TierLabel, 7), api.RoleText)}, api.ErrTwice}, {[]api.Tier{root, label, tier("b", api.TierRoot, -1)}, api.OK},
		// 4
		{[]api.Tier{tier("a", api.TierRoot, 0)}, api.ErrParent}, {[]api.Tier{root, tier("a", api.TierRoot, 0)}, api.ErrParent}, {[]api.Tier{tier("a", api.TierRoot, -2)}, api.ErrParent}, {[]api.Tier{tier("a", api.TierLabel, -1)}, api.ErrParent}, {[]api.Tier{tier("a", api.TierSeries, 0)}, api.ErrParent}, {[]api.Tier{root, tier("a", api.TierLabel, 1)}, api.ErrParent}, {[]api.Tier{root, tier("a", api.TierSeries, 2), root}, api.ErrParent}, {[]api.Tier{root, tier("a", api.TierParts, 1)}, api.ErrParent}, {[]api.Tier{root, tier("a", api.TierWithin, math.MaxInt)}, api.ErrParent}, {[]api.Tier{root, tier("a", api.TierWithin, math.MinInt)}, api.ErrParent}, {[]api.Tier{root, tier("a", api.TierParts, -1)}, api.ErrParent},
		{[]api.Tier{root, label, tier("a", api.TierSeries, 1), tier("b", api.TierLabel, 2)}, api.OK}, {[]api.Tier{with(tier("a", api.TierRoot, 0), api.RoleGloss)}, api.ErrParent},
		// 5
		{[]api.Tier{root, tier("a", api.TierParts, 0), tier("b", api.TierWithin, 1), tier("c", api.TierParts, 2)}, api.OK}, {[]api.Tier{root, label, tier("a", api.TierParts, 1)}, api.ErrParent}, {[]api.Tier{root, label, tier("a", api.TierWithin, 1)}, api.ErrParent}, {[]api.Tier{root, tier("s", api.TierSeries, 0), tier("a", api.TierParts, 1)}, api.ErrParent}, {[]api.Tier{root, tier("s", api.TierSeries, 0), tier("a", api.TierWithin, 1)}, api.ErrParent}, {[]api.Tier{root, label, with(tier("a", api.TierParts, 1), api.RoleText)}, api.ErrParent},
		// 6
		{[]api.Tier{root, with(tier("a", api.TierWithin, 0), api.RoleText)}, api.ErrKind}, {[]api.Tier{root, with(label, api.RoleText)}, api.ErrKind}, {[]api.Tier{text, word, with(tier("m", api.TierWithin, 1), api.RoleMorph)}, api.ErrKind}, {[]api.Tier{text, word, with(tier("m", api.TierLabel, 1), api.RoleMorph)}, api.ErrKind}, {[]api.Tier{text, word, morph, with(tier("g", api.TierSeries, 2), api.RoleGloss)}, api.ErrKind}, {[]api.Tier{text, with(tier("f", api.TierSeries, 0), api.RoleFree)}, api.ErrKind}, {[]api.Tier{with(root, api.RoleMorph)}, api.ErrKind}, {[]api.Tier{with(root, api.RoleGloss)}, api.ErrKind}, {[]api.Tier{with(root, api.RoleFree)}, api.ErrKind}, {[]api.Tier{root, with(tier("g", api.TierSeries, 0), api.RoleGloss)}, api.ErrKind},
		// 7
		{[]api.Tier{with(root, api.RoleWord)}, api.ErrParent}, {[]api.Tier{root, with(tier("w", api.TierWithin, 0), api.RoleWord)}, api.ErrParent}, {[]api.Tier{text, root, with(tier("w", api.TierWithin, 1), api.RoleWord)}, api.ErrParent}, {[]api.Tier{root, with(tier("f", api.TierLabel, 0), api.RoleFree)}, api.ErrParent}, {[]api.Tier{text, word, with(tier("f", api.TierLabel, 1), api.RoleFree)}, api.ErrParent}, {[]api.Tier{text, with(tier("m", api.TierSeries, 0), api.RoleMorph)}, api.ErrParent}, {[]api.Tier{text, word, with(tier("g", api.TierLabel, 1), api.RoleGloss)}, api.ErrParent}, {[]api.Tier{text, word, morph, tier("l", api.TierSeries, 2), with(tier("g", api.TierLabel, 3), api.RoleGloss)}, api.ErrParent},
		{[]api.Tier{text, word, morph, with(tier("g", api.TierLabel, 2), api.RoleGloss)}, api.OK}, {[]api.Tier{text, with(tier("f", api.TierLabel, 0), api.RoleFree), with(tier("w", api.TierLabel, 0), api.RoleWord)}, api.OK}, {[]api.Tier{text, with(tier("w", api.TierParts, 0), api.RoleWord)}, api.OK}, {[]api.Tier{text, with(tier("w", api.TierSeries, 0), api.RoleWord)}, api.OK},
		// The first tier with an error decides.
		{[]api.Tier{tier("a", 9, -1), tier("A", api.TierRoot, -1)}, api.ErrKind}, {[]api.Tier{tier("A", api.TierRoot, -1), tier("a", 9, -1)}, api.ErrName},
	} {
		if err := tiertype.Check(c.l); err != c.err {
			t.Errorf("%d: Check = %d, want %d", i, err, c.err)
		}
	}
}

// defined returns the error of tiers of which each name that has a capital letter is none, from the definition.
func defined(l []api.Tier) api.Errno {
	aligned := func(i int) bool { return l[i].Kind <= api.TierWithin }
	for i, x := range l {
		name, role, roleOfParent := false, false, -1
		for _, y := range l[:i] {
			name = name || x.Name == y.Name
			role = role || x.Role == y.Role && x.Role != api.RoleNone
		}
		inside := x.Parent >= 0 && x.Parent < i
		if inside {
			roleOfParent = l[x.Parent].Role
		}
		for _, c := range []struct {
			wrong bool
			err   api.Errno
		}{
			{strings.ToLower(x.Name) != x.Name, api.ErrName}, {name, api.ErrTwice}, {x.Kind < 0 || x.Kind > 4, api.ErrKind}, {x.Role < 0 || x.Role > 5, api.ErrRange}, {role, api.ErrTwice},
			{x.Kind == api.TierRoot && x.Parent != -1 || x.Kind != api.TierRoot && !inside, api.ErrParent},
			{(x.Kind == api.TierParts || x.Kind == api.TierWithin) && inside && !aligned(x.Parent), api.ErrParent},
			{x.Role == api.RoleText && x.Kind != api.TierRoot || x.Role == api.RoleMorph && x.Kind != api.TierSeries || (x.Role == api.RoleGloss || x.Role == api.RoleFree) && x.Kind != api.TierLabel, api.ErrKind},
			{(x.Role == api.RoleWord || x.Role == api.RoleFree) && roleOfParent != api.RoleText || x.Role == api.RoleMorph && roleOfParent != api.RoleWord || x.Role == api.RoleGloss && roleOfParent != api.RoleMorph, api.ErrParent},
		} {
			if c.wrong {
				return c.err
			}
		}
	}
	return api.OK
}

// small calls do with lists of up to length tiers, of which each begins with right ones.
func small(length int, do func(l []api.Tier)) {
	names := [...]string{"a", "b", "c", "d", "B"}
	var grow func(l []api.Tier)
	grow = func(l []api.Tier) {
		do(l)
		if len(l) == length || tiertype.Check(l) != api.OK {
			return
		}
		for kind := -1; kind <= 5; kind++ {
			for role := -1; role <= 6; role++ {
				for parent := -2; parent <= len(l)+1; parent++ {
					grow(append(l[:len(l):len(l)], with(tier(names[len(l)], kind, parent), role)))
				}
			}
		}
		for _, name := range []string{"B", "a"} {
			grow(append(l[:len(l):len(l)], tier(name, api.TierRoot, -1)))
		}
	}
	grow(nil)
}

// P11.1: Check of many lists is what the definition says.
func TestCheckOfAll(t *testing.T) {
	right := 0
	small(3, func(l []api.Tier) {
		err := tiertype.Check(l)
		if want := defined(l); err != want {
			t.Fatalf("Check(%v) = %d, want %d", l, err, want)
		}
		if err == api.OK {
			right++
		}
	})
	if right < 100 {
		t.Errorf("only %d right lists", right)
	}
	random := rand.New(rand.NewSource(11))
	for range 50000 {
		var l []api.Tier
		for i := range 5 {
			l = append(l, with(tier(string("aabcdeX"[random.Intn(7)])+string(rune('a'+i*random.Intn(2))), random.Intn(7)-1, random.Intn(i+3)-1), random.Intn(8)-1))
		}
		if err, want := tiertype.Check(l), defined(l); err != want {
			t.Fatalf("Check(%v) = %d, want %d", l, err, want)
		}
	}
}

// tree returns right tiers of all kinds: two root tiers, of which the first one has others below it.
func tree() []api.Tier {
	return []api.Tier{tier("r", api.TierRoot, -1), tier("p", api.TierParts, 0), tier("s", api.TierSeries, 1), tier("q", api.TierRoot, -1), tier("w", api.TierWithin, 1), tier("l", api.TierLabel, 4), tier("m", api.TierLabel, 1), tier("n", api.TierSeries, 5)}
}

// nowhere are indices that no tiers have.
var nowhere = []int{-1, -2, 8, 9, math.MinInt, math.MaxInt}

// P11.2
func TestAlignedAndKids(t *testing.T) {
	l := tree()
	if err := tiertype.Check(l); err != api.OK {
		t.Fatal(err)
	}
	for i, c := range []struct {
		aligned bool
		kids    []int
	}{{true, []int{1}}, {true, []int{2, 4, 6}}, {false, nil}, {true, nil}, {true, []int{5}}, {false, []int{7}}, {false, nil}, {false, nil}} {
		if tiertype.Aligned(l, i) != c.aligned || !slices.Equal(tiertype.Kids(l, i), c.kids) {
			t.Errorf("tier %d: %t, %v", i, tiertype.Aligned(l, i), tiertype.Kids(l, i))
		}
	}
	for _, i := range nowhere {
		if tiertype.Aligned(l, i) || len(tiertype.Kids(l, i)) != 0 {
			t.Errorf("tier %d: %t, %v", i, tiertype.Aligned(l, i), tiertype.Kids(l, i))
		}
	}
	if tiertype.Aligned(nil, 0) || len(tiertype.Kids(nil, 0)) != 0 || len(tiertype.Kids(nil, -1)) != 0 {
		t.Error("no tiers")
	}
}

// P11.3
func TestPathAndAbove(t *testing.T) {
	l := tree()
	for i, want := range [][]int{{0}, {1, 0}, {2, 1, 0}, {3}, {4, 1, 0}, {5, 4, 1, 0}, {6, 1, 0}, {7, 5, 4, 1, 0}} {
		if path := tiertype.Path(l, i); !slices.Equal(path, want) {
			t.Errorf("Path of %d: %v", i, path)
		}
		for j := -2; j < 10; j++ {
			if above := tiertype.Above(l, i, j); above != slices.Contains(want[1:], j) {
				t.Errorf("Above(%d, %d) is %t", i, j, above)
			}
		}
	}
	for _, i := range nowhere {
		if len(tiertype.Path(l, i)) != 0 || tiertype.Above(l, i, 0) || tiertype.Above(l, i, i) || tiertype.Above(l, 7, i) {
			t.Errorf("tier %d: %v", i, tiertype.Path(l, i))
		}
	}
	if path := tiertype.Path(tiertype.Standard(), 3); !slices.Equal(path, []int{3, 2, 1, 0}) {
		t.Error(path)
	}
}

// P11.4
func TestRoleAndFind(t *testing.T) {
	l := append(tree(), with(tier("text", api.TierRoot, -1), api.RoleText), with(tier("word-2", api.TierParts, 8), api.RoleWord))
	if err := tiertype.Check(l); err != api.OK {
		t.Fatal(err)
	}
	for role, want := range map[int]int{api.RoleNone: -1, api.RoleText: 8, api.RoleWord: 9, api.RoleMorph: -1, api.RoleGloss: -1, api.RoleFree: -1, -1: -1, 6: -1, math.MinInt: -1, math.MaxInt: -1} {
		if i := tiertype.Role(l, role); i != want {
			t.Errorf("Role of %d: %d", role, i)
		}
	}
	for name, want := range map[string]int{"r": 0, "p": 1, "n": 7, "text": 8, "word-2": 9, "word": -1, "": -1, "R": -1, "a": -1} {
		if i := tiertype.Find(l, name); i != want {
			t.Errorf("Find of %q: %d", name, i)
		}
	}
	for role := range 7 {
		if i := tiertype.Role(nil, role); i != -1 || tiertype.Find(nil, "") != -1 {
			t.Errorf("Role of %d without tiers: %d", role, i)
		}
	}
}

// P11.5
func TestStandard(t *testing.T) {
	want := []api.Tier{
		{Name: "text", Kind: api.TierRoot, Role: api.RoleText, Parent: -1},
		{Name: "word", Kind: api.TierWithin, Role: api.RoleWord, Parent: 0},
		{Name: "morph", Kind: api.TierSeries, Role: api.RoleMorph, Parent: 1},
		{Name: "gloss", Kind: api.TierLabel, Role: api.RoleGloss, Parent: 2},
		{Name: "free", Kind: api.TierLabel, Role: api.RoleFree, Parent: 0},
	}
	l := tiertype.Standard()
	if !slices.Equal(l, want) || tiertype.Check(l) != api.OK {
		t.Error(l)
	}
	clear(l)
	if !slices.Equal(tiertype.Standard(), want) {
		t.Error("Standard shares its memory")
	}
}

// P11.6
func TestLaws(t *testing.T) {
	small(4, func(l []api.Tier) {
		if tiertype.Check(l) != api.OK {
			return
		}
		if len(l) > 0 && tiertype.Check(l[:len(l)-1]) != api.OK {
			t.Fatalf("%v is not right without the last one", l)
		}
		for i, x := range l {
			checkLaws(t, l, i, x.Kind == api.TierRoot)
		}
	})
}

// checkLaws checks what holds for the tier i of right tiers.
func checkLaws(t *testing.T, l []api.Tier, i int, root bool) {
	var parents []int
	for j := range l {
		if slices.Contains(tiertype.Kids(l, j), i) {
			parents = append(parents, j)
		}
		above := tiertype.Above(l, i, j)
		if above && (j >= i || tiertype.Aligned(l, i) && !tiertype.Aligned(l, j)) {
			t.Fatalf("%v: %d is above %d", l, j, i)
		}
		for k := range l {
			if above && tiertype.Above(l, j, k) && !tiertype.Above(l, i, k) {
				t.Fatalf("%v: Above is not transitive for %d, %d, %d", l, i, j, k)
			}
		}
	}
	path := tiertype.Path(l, i)
	if root && (len(parents) != 0 || len(path) != 1) || !root && (len(parents) != 1 || parents[0] != l[i].Parent || len(path) < 2 || path[1] != l[i].Parent) {
		t.Fatalf("%v: %d is a kid of %v, and its path is %v", l, i, parents, path)
	}
}

// Tiers that are not right may have cycles and parents that are none; the functions end nevertheless.
func TestTiersThatAreNotRight(t *testing.T) {
	for _, l := range [][]api.Tier{{tier("a", api.TierLabel, 0)}, {tier("a", api.TierLabel, 1), tier("b", api.TierLabel, 0)}, {tier("a", api.TierLabel, 7)}, {tier("a", api.TierLabel, math.MinInt)}} {
		for i := range l {
			tiertype.Aligned(l, i)
			tiertype.Kids(l, i)
			tiertype.Above(l, i, 0)
			if path := tiertype.Path(l, i); len(path) > len(l) {
				t.Errorf("Path of %d in %v: %v", i, l, path)
			}
		}
	}
}
