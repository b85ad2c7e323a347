package layout_test

import (
	"math"
	"math/rand"
	"slices"
	"strings"
	"testing"
	"unicode/utf8"

	"langdoc/api"
	"langdoc/layout"
)

// width returns the width of a string, from its definition.
func width(s string) int {
	if !utf8.ValidString(s) {
		return len(s)
	}
	n := 0
	for i, r := range s {
		if i == 0 || r < 0x300 || r > 0x36f {
			n++
		}
	}
	return n
}

func blanks(n int) string { return strings.Repeat(" ", n) }

// P33.1
func TestWidth(t *testing.T) {
	for s, n := range map[string]int{
		"": 0, "a": 1, "ba": 2, " ": 1, "a b ": 4, "a\u0301": 1, "a\u0301\u0323b": 2, "\u0301": 1, "\u0301\u0301": 1, "\u0301a": 2, "\u00e9": 1, "\u014b\u0361g": 2, "\u0370": 1, "\u036f": 1, "a\u0370": 2, "a\u036f": 1, "日本": 2, "\U0001f600": 1, "\n": 1,
		"\xff": 1, "\xff\xfe": 2, "a\u0301\xff": 4, "\xc3": 1, "\xed\xa0\x80": 3, "\xc0\x80": 2,
	} {
		if got := layout.Width(s); got != n {
			t.Errorf("Width(%q) = %d, want %d", s, got, n)
		}
		if width(s) != n {
			t.Errorf("the test's own width of %q is %d", s, width(s))
		}
	}
}

// P33.1
func TestPad(t *testing.T) {
	long := strings.Repeat("x", api.MaxLines+1)
	for _, c := range []struct {
		s    string
		n    int
		want string
	}{
		{"", 0, ""}, {"", 1, " "}, {"", -1, ""}, {"ba", 4, "ba  "}, {"ba", 3, "ba "}, {"ba", 2, "ba"}, {"ba", 1, "ba"}, {"ba", 0, "ba"}, {"ba", -5, "ba"}, {"ba ", 4, "ba  "},
		{"a\u0301", 1, "a\u0301"}, {"a\u0301", 3, "a\u0301  "}, {"\u0301", 2, "\u0301 "}, {"\xff\xc3", 3, "\xff\xc3 "}, {"\xff\xc3", 2, "\xff\xc3"}, {"日本", 5, "日本   "},
		{"", api.MaxLines, blanks(api.MaxLines)}, {"ab", api.MaxLines, "ab" + blanks(api.MaxLines-2)}, {"ab", api.MaxLines + 1, "ab"}, {"", api.MaxLines + 1, ""}, {"ab", math.MaxInt, "ab"}, {"ab", math.MinInt, "ab"},
		{long, api.MaxLines, long}, {long, api.MaxLines + 2, long},
	} {
		if got := layout.Pad(c.s, c.n); got != c.want {
			t.Errorf("Pad(%.20q, %d) has %d bytes, want %d", c.s, c.n, len(got), len(c.want))
		}
	}
}

// P33.2
func TestColumns(t *testing.T) {
	for i, c := range []struct {
		rows [][]string
		want []int
	}{
		{nil, nil}, {[][]string{nil, {}}, nil}, {[][]string{{""}}, []int{0}}, {[][]string{{"", ""}, {}}, []int{0, 0}},
		{[][]string{{"ba", "mi"}, {"dog", "PL"}}, []int{3, 2}},
		{[][]string{{"a"}, {"ab", "c", "def"}, {"abc", ""}}, []int{3, 1, 3}},
		{[][]string{{}, {"a\u0301b", "\xff\xfe\xfd"}, {"a", "xy "}}, []int{2, 3}},
	} {
		if got := layout.Columns(c.rows); !slices.Equal(got, c.want) {
			t.Errorf("%d: Columns = %v, want %v", i, got, c.want)
		}
	}
}

// P33.3
func TestGroups(t *testing.T) {
	for i, c := range []struct {
		columns []int
		width   int
		want    [][2]int
	}{
		{nil, 5, nil}, {[]int{}, 0, nil}, {[]int{5}, 5, [][2]int{{0, 1}}}, {[]int{6}, 5, [][2]int{{0, 1}}}, {[]int{0}, 0, [][2]int{{0, 1}}}, {[]int{0}, -1, [][2]int{{0, 1}}},
		{[]int{3, 3, 9}, 7, [][2]int{{0, 2}, {2, 3}}}, {[]int{3, 3}, 6, [][2]int{{0, 1}, {1, 2}}}, {[]int{3, 3, 3}, 11, [][2]int{{0, 3}}}, {[]int{3, 3, 3}, 10, [][2]int{{0, 2}, {2, 3}}},
		{[]int{9, 1, 1, 9, 9}, 3, [][2]int{{0, 1}, {1, 3}, {3, 4}, {4, 5}}}, {[]int{0, 0, 0, 0}, 2, [][2]int{{0, 3}, {3, 4}}}, {[]int{0, 0}, 0, [][2]int{{0, 1}, {1, 2}}}, {[]int{1, 1}, -1, [][2]int{{0, 1}, {1, 2}}}, {[]int{0, 0}, math.MinInt, [][2]int{{0, 1}, {1, 2}}},
		{[]int{-3, 2, -1}, 4, [][2]int{{0, 3}}}, {[]int{-3, 2, -1}, 3, [][2]int{{0, 2}, {2, 3}}}, {[]int{2, -9, 2}, 6, [][2]int{{0, 3}}}, {[]int{2, -9, 2}, 5, [][2]int{{0, 2}, {2, 3}}}, {[]int{math.MinInt, math.MinInt}, 1, [][2]int{{0, 2}}},
		{[]int{math.MaxInt, 0}, math.MaxInt, [][2]int{{0, 1}, {1, 2}}}, {[]int{math.MaxInt - 1, 0}, math.MaxInt, [][2]int{{0, 2}}}, {[]int{math.MaxInt - 1, 1}, math.MaxInt, [][2]int{{0, 1}, {1, 2}}}, {[]int{0, math.MaxInt - 1, math.MaxInt}, math.MaxInt, [][2]int{{0, 2}, {2, 3}}}, {[]int{math.MaxInt, math.MaxInt, 1}, math.MinInt, [][2]int{{0, 1}, {1, 2}, {2, 3}}},
	} {
		if got := layout.Groups(c.columns, c.width); !slices.Equal(got, c.want) {
			t.Errorf("%d: Groups(%v, %d) = %v, want %v", i, c.columns, c.width, got, c.want)
		}
	}
}

// spread returns the width of some columns next to each other.
func spread(columns []int) int {
	n := len(columns) - 1
	for _, c := range columns {
		n += max(c, 0)
	}
	return n
}

// P33.3, P33.6: all lists of at most four columns of the widths -1 to 3.
func TestGroupsAreAsWideAsTheyCanBe(t *testing.T) {
	lists := [][]int{nil}
	for from := 0; len(lists[from]) < 4; from++ {
		for c := -1; c <= 3; c++ {
			lists = append(lists, append(slices.Clone(lists[from]), c))
		}
	}
	for _, columns := range lists {
		for width := -1; width <= 12; width++ {
			at := 0
			for _, g := range layout.Groups(columns, width) {
				if g[0] != at || g[1] <= at || g[1] > len(columns) {
					t.Fatalf("Groups(%v, %d) has the group %v behind %d", columns, width, g, at)
				}
				at = g[1]
				if at-g[0] > 1 && spread(columns[g[0]:at]) > width || at < len(columns) && spread(columns[g[0]:at+1]) <= width {
					t.Fatalf("Groups(%v, %d) has the group %v", columns, width, g)
				}
			}
			if at != len(columns) {
				t.Fatalf("Groups(%v, %d) ends at %d", columns, width, at)
			}
		}
	}
}

// P33.4
func TestAlign(t *testing.T) {
	wide := strings.Repeat("w", api.MaxLines)
	for i, c := range []struct {
		rows [][]string
		want []string
	}{
		{nil, nil}, {[][]string{nil}, []string{""}}, {[][]string{nil, {}}, []string{"", ""}}, {[][]string{{"", ""}}, []string{""}},
		{[][]string{{"ba", "mi"}, {"dog", "PL"}}, []string{"ba  mi", "dog PL"}},
		{[][]string{{"a", "b", "c"}, {"dog"}, {}, {"", "x"}, {"", "", "y"}}, []string{"a   b c", "dog", "", "    x", "      y"}},
		{[][]string{{"a ", "b  "}, {"  ", " "}, {"   ", "c"}, {" d ", " e "}}, []string{"a   b", "", "    c", " d   e"}},
		{[][]string{{"a\u0301", "x"}, {"bcd", "y"}, {"\xff\xfe", "z"}}, []string{"a\u0301   x", "bcd y", "\xff\xfe  z"}},
		{[][]string{{"a\t", "\n"}, {"bcde", "\u00a0"}}, []string{"a\t   \n", "bcde \u00a0"}},
		{[][]string{{"", "", "a"}, {"", "", ""}}, []string{"  a", ""}},
		{[][]string{{wide, "b"}, {"a", "c"}}, []string{wide + " b", "a" + blanks(api.MaxLines-1) + " c"}},
	} {
		if got := layout.Align(c.rows); !slices.Equal(got, c.want) {
			t.Errorf("%d: Align = %.200q, want %.200q", i, got, c.want)
		}
	}
}

// P33.5
func TestWrap(t *testing.T) {
	rows := [][]string{{"ba", "mi", "a\u0301"}, {"dog", "PL"}, {}, {"", "", "x "}}
	for i, c := range []struct {
		rows  [][]string
		width int
		want  []string
	}{
		{rows, 9, layout.Align(rows)}, {rows, 100, layout.Align(rows)}, {rows, math.MaxInt, layout.Align(rows)},
		{rows, 8, []string{"ba  mi", "dog PL", "", "", "", "a\u0301", "", "", "x"}},
		{rows, 6, []string{"ba  mi", "dog PL", "", "", "", "a\u0301", "", "", "x"}},
		{rows, 5, []string{"ba", "dog", "", "", "", "mi a\u0301", "PL", "", "   x"}},
		{rows, 4, []string{"ba", "dog", "", "", "", "mi", "PL", "", "", "", "a\u0301", "", "", "x"}},
		{rows, -4, []string{"ba", "dog", "", "", "", "mi", "PL", "", "", "", "a\u0301", "", "", "x"}},
		{nil, 5, nil}, {[][]string{{}, nil}, 5, nil}, {[][]string{{""}}, 5, []string{""}}, {[][]string{{"", ""}}, 0, []string{"", "", ""}},
	} {
		if got := layout.Wrap(c.rows, c.width); !slices.Equal(got, c.want) {
			t.Errorf("%d: Wrap with %d = %q, want %q", i, c.width, got, c.want)
		}
	}
}

// P33.6
func TestRandomRows(t *testing.T) {
	random := rand.New(rand.NewSource(33))
	cells := []string{"", "a", "ba", "dog", "a\u0301b", "\u014b", "x y", "longer", "e\u0323\u0301", " z", "日本語"}
	for range 2000 {
		rows := make([][]string, random.Intn(5))
		for i := range rows {
			for range random.Intn(6) {
				rows[i] = append(rows[i], cells[random.Intn(len(cells))])
			}
		}
		checkAligned(t, rows)
		checkWrapped(t, rows, random.Intn(25)-2)
	}
}

// checkAligned checks that each cell begins where its column does, and that nothing else is in the lines.
func checkAligned(t *testing.T, rows [][]string) {
	lines := layout.Align(rows)
	if len(lines) != len(rows) {
		t.Fatalf("Align(%q) has %d lines", rows, len(lines))
	}
	columns := layout.Columns(rows)
	for i, row := range rows {
		var want string
		for k, cell := range row {
			want += blanks(spread(columns[:k])+1-width(want)) + cell
		}
		if want = strings.TrimRight(want, " "); lines[i] != want {
			t.Fatalf("Align(%q) has the line %q, want %q", rows, lines[i], want)
		}
	}
}

func checkWrapped(t *testing.T, rows [][]string, width int) {
	columns := layout.Columns(rows)
	groups := layout.Groups(columns, width)
	lines := layout.Wrap(rows, width)
	if len(columns) > 0 && len(groups) == 1 && spread(columns) <= width && !slices.Equal(lines, layout.Align(rows)) {
		t.Fatalf("Wrap(%q, %d) = %q", rows, width, lines)
	}
	if len(lines) != max(0, len(groups)*(len(rows)+1)-1) {
		t.Fatalf("Wrap(%q, %d) of %d groups has %d lines", rows, width, len(groups), len(lines))
	}
	for i, g := range groups {
		var part [][]string
		for _, row := range rows {
			part = append(part, row[min(g[0], len(row)):min(g[1], len(row))])
		}
		from := i * (len(rows) + 1)
		if i > 0 && lines[from-1] != "" || !slices.Equal(lines[from:from+len(rows)], layout.Align(part)) {
			t.Fatalf("Wrap(%q, %d) has the group %q", rows, width, lines[from:from+len(rows)])
		}
	}
}

// R5: arguments are not modified.
func TestArgumentsAreKept(t *testing.T) {
	row := []string{"a", "b", "c", "d"}
	columns := []int{-1, 2}
	layout.Wrap([][]string{row[:2], row[:3]}, 1)
	layout.Align([][]string{row[:2], row[:3]})
	layout.Groups(columns, 3)
	if strings.Join(row, "") != "abcd" || !slices.Equal(columns, []int{-1, 2}) {
		t.Errorf("the arguments became %q, %v", row, columns)
	}
}
