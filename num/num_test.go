package num_test

import (
	"math"
	"slices"
	"strconv"
	"testing"

	"langdoc/api"
	"langdoc/num"
)

// P1.1
func TestClip(t *testing.T) {
	for _, c := range []struct{ n, lo, hi, want int }{
		{7, 1, 5, 5},
		{7, 9, 5, 9},
		{0, 9, 5, 9},
		{20, 9, 5, 9},
		{6, 9, 5, 9},
		{math.MinInt, math.MinInt, math.MaxInt, math.MinInt},
		{math.MaxInt, math.MinInt, math.MaxInt, math.MaxInt},
		{math.MaxInt, math.MinInt, -1, -1},
		{math.MinInt, 1, math.MaxInt, 1},
		{0, math.MaxInt, math.MinInt, math.MaxInt},
	} {
		if got := num.Clip(c.n, c.lo, c.hi); got != c.want {
			t.Errorf("Clip(%d, %d, %d) = %d, want %d", c.n, c.lo, c.hi, got, c.want)
		}
	}
}

// P1.1, from its definition.
func TestClipIsNearest(t *testing.T) {
	distance := func(a, b int) int { return max(a-b, b-a) }
	for n := -5; n <= 5; n++ {
		for lo := -4; lo <= 4; lo++ {
			for hi := -4; hi <= 4; hi++ {
				want := lo
				for m := lo; m <= hi; m++ {
					if distance(m, n) < distance(want, n) {
						want = m
					}
				}
				if got := num.Clip(n, lo, hi); got != want {
					t.Errorf("Clip(%d, %d, %d) = %d, want %d", n, lo, hi, got, want)
				}
			}
		}
	}
}

// P1.2
func TestText(t *testing.T) {
	for n, want := range map[int]string{
		0: "0", 1: "1", -1: "-1", 9: "9", 10: "10", -10: "-10", 100: "100", -120: "-120", 1234567890: "1234567890",
		api.MaxNum: "1099511627776", -api.MaxNum: "-1099511627776", api.MaxNum + 1: "1099511627777",
		math.MaxInt: "9223372036854775807", math.MinInt: "-9223372036854775808",
	} {
		if got := num.Text(n); got != want {
			t.Errorf("Text(%d) = %q, want %q", n, got, want)
		}
	}
}

// P1.2
func TestParse(t *testing.T) {
	for s, want := range map[string]int{
		"0": 0, "5": 5, "-5": -5, "10": 10, "-120": -120, "1234567890": 1234567890, "999999999999": 999999999999,
		"1099511627776": api.MaxNum, "-1099511627776": -api.MaxNum, "1099511627775": api.MaxNum - 1, "-1099511627775": 1 - api.MaxNum,
	} {
		if got, ok := num.Parse(s); got != want || !ok {
			t.Errorf("Parse(%q) = %d, %t, want %d", s, got, ok, want)
		}
	}
}

// P1.2: texts that no number from -MaxNum to MaxNum has.
func TestParseRefuses(t *testing.T) {
	for _, s := range []string{
		"", "-", "+", "-0", "+0", "00", "-00", "007", "-07", "+1", "+120", "--1", "-+1", "+-1", "1-", "1+",
		" 1", "1 ", "- 1", "\t1", "1\n", "\n", "1\x00", "\x001", "1_0", "1,000", "1.0", "1.", ".1", "1e3", "0x1", "0b1", "0o1", "a", "1a", "a1", "\xff", "\uff11", "\u0661", "1:", "/1",
		"1099511627777", "-1099511627777", "1099511627786", "10995116277760", "9223372036854775807", "-9223372036854775808", "9223372036854775808", "-9223372036854775809",
		"18446744073709551616", "18446744073709551617", "-18446744073709551617", "99999999999999999999999999999999999999999999",
		"01099511627776", "00000000000000000000000000000000000000000001",
	} {
		if got, ok := num.Parse(s); got != 0 || ok {
			t.Errorf("Parse(%q) = %d, %t", s, got, ok)
		}
	}
}

// P1.2, P1.5
func TestParseReadsTexts(t *testing.T) {
	check := func(n int) {
		if got, ok := num.Parse(num.Text(n)); got != n || !ok {
			t.Errorf("Parse(%q) = %d, %t", num.Text(n), got, ok)
		}
		if num.Text(n) != strconv.Itoa(n) {
			t.Errorf("Text(%d) = %q", n, num.Text(n))
		}
	}
	for n := -2000; n <= 2000; n++ {
		check(n)
	}
	for _, base := range []int{2, 10} {
		for p := 1; p <= api.MaxNum; p *= base {
			for _, n := range []int{p - 1, p, p + 1} {
				check(min(n, api.MaxNum))
				check(max(-n, -api.MaxNum))
			}
		}
	}
}

// P1.2, P1.5: of all short texts, those of numbers are read, and no other ones.
func TestParseReadsNothingElse(t *testing.T) {
	texts := map[string]int{}
	for n := -999; n <= 9999; n++ {
		texts[strconv.Itoa(n)] = n
	}
	const alphabet = "-+ 0129_"
	var visit func(s string)
	visit = func(s string) {
		want, isText := texts[s]
		if got, ok := num.Parse(s); got != want || ok != isText {
			t.Errorf("Parse(%q) = %d, %t", s, got, ok)
		}
		if len(s) == 4 {
			return
		}
		for _, c := range alphabet {
			visit(s + string(c))
		}
	}
	visit("")
}

// P1.3
func TestSortedAndHas(t *testing.T) {
	for _, c := range []struct{ l, want []int }{
		{nil, nil},
		{[]int{}, nil},
		{[]int{7}, []int{7}},
		{[]int{2, 2, 2}, []int{2}},
		{[]int{4, 2, 2, 9}, []int{2, 4, 9}},
		{[]int{9, 4, 2, 9, 4, 2}, []int{2, 4, 9}},
		{[]int{0, -1, 1, -1}, []int{-1, 0, 1}},
		{[]int{math.MaxInt, math.MinInt, 0, math.MaxInt, -1, 1}, []int{math.MinInt, -1, 0, 1, math.MaxInt}},
	} {
		before := slices.Clone(c.l)
		if got := num.Sorted(c.l); !slices.Equal(got, c.want) {
			t.Errorf("Sorted(%v) = %v", c.l, got)
		}
		for _, n := range []int{math.MinInt, -1, 0, 1, 2, 3, 4, 7, 8, 9, 10, math.MaxInt} {
			if got := num.Has(c.l, n); got != slices.Contains(c.want, n) {
				t.Errorf("Has(%v, %d) = %t", c.l, n, got)
			}
		}
		if !slices.Equal(c.l, before) {
			t.Errorf("the argument %v became %v", before, c.l)
		}
	}
}

// P1.3: Has does not rely on an order of the list.
func TestHasInAnyOrder(t *testing.T) {
	l := []int{5, 1, 9, 3, 9, -2, 8}
	for _, n := range l {
		if !num.Has(l, n) {
			t.Errorf("Has(%v, %d) is false", l, n)
		}
	}
	for _, n := range []int{0, 2, 4, 6, 7, 10, -9} {
		if num.Has(l, n) {
			t.Errorf("Has(%v, %d) is true", l, n)
		}
	}
}

// smallLists returns all lists of at most three of the numbers -1, 0, 2 and 3.
func smallLists() [][]int {
	lists := [][]int{nil}
	for from := 0; len(lists[from]) < 3; from++ {
		for _, n := range []int{-1, 0, 2, 3} {
			lists = append(lists, append(slices.Clone(lists[from]), n))
		}
	}
	return lists
}

// chosen returns the numbers from -2 to 4 for which in is true.
func chosen(in func(n int) bool) []int {
	var l []int
	for n := -2; n <= 4; n++ {
		if in(n) {
			l = append(l, n)
		}
	}
	return l
}

// P1.3, P1.4, from their definitions.
func TestSetsOfSmallLists(t *testing.T) {
	for _, a := range smallLists() {
		inA := func(n int) bool { return slices.Contains(a, n) }
		if got := num.Sorted(a); !slices.Equal(got, chosen(inA)) {
			t.Errorf("Sorted(%v) = %v", a, got)
		}
		for _, b := range smallLists() {
			inB := func(n int) bool { return slices.Contains(b, n) }
			beforeA, beforeB := slices.Clone(a), slices.Clone(b)
			if got := num.Union(a, b); !slices.Equal(got, chosen(func(n int) bool { return inA(n) || inB(n) })) {
				t.Errorf("Union(%v, %v) = %v", a, b, got)
			}
			if got := num.Minus(a, b); !slices.Equal(got, chosen(func(n int) bool { return inA(n) && !inB(n) })) {
				t.Errorf("Minus(%v, %v) = %v", a, b, got)
			}
			if got := num.Both(a, b); !slices.Equal(got, chosen(func(n int) bool { return inA(n) && inB(n) })) {
				t.Errorf("Both(%v, %v) = %v", a, b, got)
			}
			if !slices.Equal(a, beforeA) || !slices.Equal(b, beforeB) {
				t.Errorf("the arguments %v, %v became %v, %v", beforeA, beforeB, a, b)
			}
		}
	}
}

// P1.4
func TestSetsOfExtremes(t *testing.T) {
	a := []int{math.MaxInt, 0, math.MinInt, math.MaxInt}
	b := []int{math.MinInt, 5, math.MinInt}
	if got := num.Union(a, b); !slices.Equal(got, []int{math.MinInt, 0, 5, math.MaxInt}) {
		t.Error("Union", got)
	}
	if got := num.Minus(a, b); !slices.Equal(got, []int{0, math.MaxInt}) {
		t.Error("Minus", got)
	}
	if got := num.Both(a, b); !slices.Equal(got, []int{math.MinInt}) {
		t.Error("Both", got)
	}
}

// R5: spare capacity behind the arguments belongs to the caller.
func TestSetsLeaveCapacityAlone(t *testing.T) {
	memory := []int{3, 1, 2, 77, 78, 79}
	a, b := memory[:1], []int{4, 5}
	num.Union(a, b)
	num.Minus(a, b)
	num.Both(a, b)
	num.Sorted(memory[:3])
	if !slices.Equal(memory, []int{3, 1, 2, 77, 78, 79}) {
		t.Error(memory)
	}
}

// P1.5
func TestSetsTogether(t *testing.T) {
	var a, b []int
	for i := range 2000 {
		a = append(a, i*7919%1009-500)
		b = append(b, i*104729%1511*2-700)
	}
	minus, both := num.Minus(a, b), num.Both(a, b)
	if !slices.Equal(num.Union(minus, both), num.Sorted(a)) || len(minus)+len(both) != len(num.Sorted(a)) {
		t.Error("Minus and Both are not the parts of a")
	}
	if len(minus) == 0 || len(both) == 0 || len(num.Both(minus, b)) != 0 {
		t.Error("Minus(a, b) and b have numbers in common")
	}
	if !slices.Equal(num.Union(a, b), num.Union(b, a)) || !slices.Equal(both, num.Both(b, a)) {
		t.Error("the order of the arguments matters")
	}
	for _, l := range [][]int{num.Sorted(a), num.Union(a, b), minus, both} {
		for i := 1; i < len(l); i++ {
			if l[i-1] >= l[i] {
				t.Fatal("a result does not increase")
			}
		}
	}
}
