package clock_test

import (
	"math"
	"slices"
	"testing"

	"langdoc/api"
	"langdoc/clock"
)

func stamp(count, dev int) api.Stamp { return api.Stamp{Count: count, Dev: dev} }

// vector returns the vector of MaxDevs numbers that begins with l.
func vector(l ...int) []int {
	return append(l, make([]int, api.MaxDevs-len(l))...)
}

// stamps returns right stamps and others, around the limits.
func stamps() []api.Stamp {
	var l []api.Stamp
	for _, count := range []int{math.MinInt, -16, -1, 0, 1, 2, 3, 15, 16, 17, api.MaxCount - 1, api.MaxCount, api.MaxCount + 1, math.MaxInt} {
		for _, dev := range []int{math.MinInt, -1, 0, 1, 2, 14, 15, 16, 17, 31, math.MaxInt} {
			l = append(l, stamp(count, dev))
		}
	}
	return l
}

// isRight is the definition of a right stamp.
func isRight(s api.Stamp) bool {
	return s.Count >= 1 && s.Count <= 1<<20 && s.Dev >= 1 && s.Dev <= 15
}

// P7.1, P7.2
func TestRightAndId(t *testing.T) {
	if clock.Id(stamp(2, 3)) != 35 {
		t.Error("Id", clock.Id(stamp(2, 3)))
	}
	for _, s := range stamps() {
		if clock.Right(s) != isRight(s) {
			t.Errorf("Right(%v) = %t", s, clock.Right(s))
		}
		want := 0
		if isRight(s) {
			want = 16*s.Count + s.Dev
		}
		if clock.Id(s) != want {
			t.Errorf("Id(%v) = %d, want %d", s, clock.Id(s), want)
		}
	}
}

// P7.2, P7.6
func TestOf(t *testing.T) {
	check := func(id int) {
		s, ok := clock.Of(id)
		isId := id >= 17 && id <= 16<<20+15 && id%16 != 0
		if ok != isId || !ok && s != (api.Stamp{}) || ok && (s.Count != id/16 || s.Dev != id%16 || clock.Id(s) != id) {
			t.Errorf("Of(%d) = %v, %t", id, s, ok)
		}
	}
	for id := -100; id <= 1000; id++ {
		check(id)
		check(16<<20 + id)
	}
	for _, id := range []int{-35, math.MinInt, math.MinInt + 35, math.MaxInt, math.MaxInt - 16, 1 << 32, 1<<32 + 35, 1<<62 + 35} {
		check(id)
	}
	for _, s := range stamps() {
		if back, ok := clock.Of(clock.Id(s)); ok != isRight(s) || ok && back != s {
			t.Errorf("Of(Id(%v)) = %v, %t", s, back, ok)
		}
	}
}

// P7.1, P7.6: Less is a total order of all stamps, and the order of the Ids of right ones.
func TestLess(t *testing.T) {
	if !clock.Less(stamp(1, 9), stamp(2, 1)) || !clock.Less(stamp(2, 1), stamp(2, 2)) || clock.Less(stamp(2, 2), stamp(2, 2)) || clock.Less(stamp(2, 1), stamp(1, 9)) || clock.Less(stamp(2, 2), stamp(2, 1)) {
		t.Error("Less")
	}
	l := stamps()
	for i, a := range l {
		for j, b := range l {
			// stamps returns them in this order.
			if clock.Less(a, b) != (i < j) {
				t.Errorf("Less(%v, %v) = %t", a, b, clock.Less(a, b))
			}
			if isRight(a) && isRight(b) && clock.Less(a, b) != (clock.Id(a) < clock.Id(b)) {
				t.Errorf("the Ids of %v and %v are %d and %d", a, b, clock.Id(a), clock.Id(b))
			}
		}
	}
}

// vectors returns vectors of several lengths, also with numbers that do not count.
func vectors() [][]int {
	long := vector(1, 2, 3)
	return [][]int{
		nil, {}, {0}, {1}, {4, 9}, {3, 9, 1}, {9, 4}, {-5}, {-5, 2}, {0, 0, 0, 7}, {math.MinInt, math.MaxInt}, {api.MaxCount}, {api.MaxCount + 1, 3}, {api.MaxCount - 1, 5},
		vector(4, 9), long, append(slices.Clone(long), 50, 60), append(vector(), 99), append(vector(1)[:14:14], 7), append(vector(1)[:14:14], 7, 8),
	}
}

// number is the definition of the number of a device.
func number(v []int, dev int) int {
	if dev >= 1 && dev <= 15 && dev <= len(v) && v[dev-1] > 0 {
		return v[dev-1]
	}
	return 0
}

// P7.3
func TestCovers(t *testing.T) {
	for _, c := range []struct {
		v    []int
		s    api.Stamp
		want bool
	}{
		{[]int{4, 9}, stamp(9, 2), true}, {[]int{4, 9}, stamp(8, 2), true}, {[]int{4, 9}, stamp(10, 2), false}, {[]int{4, 9}, stamp(5, 1), false}, {[]int{4, 9}, stamp(1, 3), false}, {nil, stamp(1, 1), false},
		{[]int{4, 9}, stamp(0, 1), false}, {[]int{4, 9}, stamp(-1, 1), false}, {[]int{4, 9}, stamp(1, 0), false}, {append(vector(), 99), stamp(1, 16), false}, {[]int{math.MaxInt}, stamp(api.MaxCount+1, 1), false}, {[]int{math.MaxInt}, stamp(api.MaxCount, 1), true}, {vector(0), stamp(0, 0), false},
	} {
		if got := clock.Covers(c.v, c.s); got != c.want {
			t.Errorf("Covers(%v, %v) = %t", c.v, c.s, got)
		}
	}
	for _, v := range vectors() {
		for _, s := range stamps() {
			if got := clock.Covers(v, s); got != (isRight(s) && number(v, s.Dev) >= s.Count) {
				t.Errorf("Covers(%v, %v) = %t", v, s, got)
			}
		}
	}
}

// P7.3
func TestLeq(t *testing.T) {
	if !clock.Leq([]int{1}, []int{1, 0}) || !clock.Leq([]int{1, 0}, []int{1}) || clock.Leq([]int{2}, []int{1, 9}) || clock.Leq([]int{0, 1}, []int{9}) || !clock.Leq([]int{-5}, nil) || !clock.Leq(append(vector(), 9), nil) {
		t.Error("Leq")
	}
	for _, a := range vectors() {
		for _, b := range vectors() {
			want := true
			for dev := 1; dev <= 15; dev++ {
				want = want && number(a, dev) <= number(b, dev)
			}
			if got := clock.Leq(a, b); got != want {
				t.Errorf("Leq(%v, %v) = %t", a, b, got)
			}
		}
	}
}

// P7.4, P7.6
func TestJoin(t *testing.T) {
	if got := clock.Join([]int{4, -1}, []int{3, 9}); !slices.Equal(got, vector(4, 9)) {
		t.Error("Join", got)
	}
	for _, a := range vectors() {
		for _, b := range vectors() {
			beforeA, beforeB := slices.Clone(a), slices.Clone(b)
			got := clock.Join(a, b)
			if len(got) != 15 {
				t.Fatalf("Join(%v, %v) = %v", a, b, got)
			}
			for dev := 1; dev <= 15; dev++ {
				if got[dev-1] != max(number(a, dev), number(b, dev)) {
					t.Errorf("Join(%v, %v) = %v", a, b, got)
				}
			}
			if !clock.Leq(a, got) || !clock.Leq(b, got) {
				t.Errorf("Join(%v, %v) = %v is not at least both", a, b, got)
			}
			for _, c := range vectors() {
				if clock.Leq(a, c) && clock.Leq(b, c) && !clock.Leq(got, c) {
					t.Errorf("Join(%v, %v) = %v is greater than %v", a, b, got, c)
				}
			}
			if !slices.Equal(a, beforeA) || !slices.Equal(b, beforeB) {
				t.Errorf("the arguments %v, %v became %v, %v", beforeA, beforeB, a, b)
			}
		}
	}
}

// P7.4
func TestSee(t *testing.T) {
	for _, c := range []struct {
		v    []int
		s    api.Stamp
		want []int
	}{
		{[]int{4, 9}, stamp(7, 2), vector(4, 9)}, {[]int{4}, stamp(9, 2), vector(4, 9)}, {[]int{4, 9}, stamp(10, 2), vector(4, 10)}, {nil, stamp(1, 1), vector(1)}, {[]int{-3}, stamp(2, 3), vector(0, 0, 2)},
		{[]int{4, 9}, stamp(7, 16), vector(4, 9)}, {[]int{4, -9}, stamp(0, 2), vector(4)}, {[]int{4}, stamp(-7, 1), vector(4)}, {[]int{4}, stamp(api.MaxCount+1, 1), vector(4)}, {[]int{4}, stamp(9, 0), vector(4)}, {[]int{4}, api.Stamp{}, vector(4)}, {append(vector(1), 9), stamp(5, 15), append(vector(1)[:14:14], 5)},
	} {
		if got := clock.See(c.v, c.s); !slices.Equal(got, c.want) {
			t.Errorf("See(%v, %v) = %v, want %v", c.v, c.s, got, c.want)
		}
	}
	for _, v := range vectors() {
		for _, s := range stamps() {
			one := vector()
			if isRight(s) {
				one[s.Dev-1] = s.Count
			}
			before := slices.Clone(v)
			if got := clock.See(v, s); !slices.Equal(got, clock.Join(v, one)) {
				t.Errorf("See(%v, %v) = %v", v, s, got)
			}
			if !slices.Equal(v, before) {
				t.Errorf("the argument %v became %v", before, v)
			}
		}
	}
}

// P7.6: what See covers.
func TestSeeCovers(t *testing.T) {
	for _, v := range vectors() {
		for _, s := range stamps() {
			seen := clock.See(v, s)
			for _, other := range stamps() {
				want := clock.Covers(v, other) || isRight(s) && isRight(other) && other.Dev == s.Dev && other.Count <= s.Count
				if got := clock.Covers(seen, other); got != want {
					t.Fatalf("See(%v, %v) covers %v: %t", v, s, other, got)
				}
			}
		}
	}
}

// P7.5
func TestNext(t *testing.T) {
	for _, c := range []struct {
		v   []int
		dev int
		s   api.Stamp
	}{
		{[]int{4, 9}, 1, stamp(10, 1)}, {[]int{4, 9}, 2, stamp(10, 2)}, {[]int{4, 9}, 15, stamp(10, 15)}, {nil, 1, stamp(1, 1)}, {[]int{-7}, 3, stamp(1, 3)}, {[]int{api.MaxCount - 1}, 2, stamp(api.MaxCount, 2)}, {append(vector(3), 99), 4, stamp(4, 4)}, {append(vector()[:14:14], 8), 1, stamp(9, 1)}, {append(vector(3), math.MaxInt), 4, stamp(4, 4)},
		{nil, 0, api.Stamp{}}, {nil, 16, api.Stamp{}}, {nil, -1, api.Stamp{}}, {nil, math.MaxInt, api.Stamp{}}, {nil, math.MinInt, api.Stamp{}}, {[]int{api.MaxCount}, 2, api.Stamp{}}, {[]int{0, api.MaxCount + 7}, 1, api.Stamp{}}, {[]int{math.MaxInt}, 1, api.Stamp{}}, {[]int{math.MaxInt - 1}, 1, api.Stamp{}},
	} {
		if s, ok := clock.Next(c.v, c.dev); s != c.s || ok != (c.s.Dev > 0) {
			t.Errorf("Next(%v, %d) = %v, %t", c.v, c.dev, s, ok)
		}
	}
}

// P7.6: Next is new, later than everything that is covered, and seen afterwards.
func TestNextIsLater(t *testing.T) {
	for _, v := range vectors() {
		for dev := -1; dev <= 17; dev++ {
			before := slices.Clone(v)
			next, ok := clock.Next(v, dev)
			if !slices.Equal(v, before) {
				t.Errorf("the argument %v became %v", before, v)
			}
			if !ok {
				continue
			}
			if clock.Covers(v, next) || !clock.Covers(clock.See(v, next), next) {
				t.Errorf("Next(%v, %d) = %v is covered before, or not afterwards", v, dev, next)
			}
			for _, s := range stamps() {
				if clock.Covers(v, s) && !clock.Less(s, next) {
					t.Errorf("Next(%v, %d) = %v is not later than %v", v, dev, next, s)
				}
			}
		}
	}
}
