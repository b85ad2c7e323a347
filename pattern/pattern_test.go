package pattern_test

import (
	"slices"
	"strings"
	"testing"
	"unicode/utf8"

	"langdoc/api"
	"langdoc/pattern"
)

// all returns the strings of at most length of the parts.
func all(parts []string, length int) []string {
	l := []string{""}
	from := 0
	for range length {
		to := len(l)
		for _, s := range l[from:to] {
			for _, p := range parts {
				l = append(l, s+p)
			}
		}
		from = to
	}
	return l
}

// matched reports whether a string of scalars that is a pattern matches another one, from the definition.
func matched(p, s []rune) bool {
	switch {
	case len(p) == 0:
		return len(s) == 0
	case p[0] == '*':
		return matched(p[1:], s) || len(s) > 0 && matched(p, s[1:])
	case p[0] == '?':
		return len(s) > 0 && matched(p[1:], s[1:])
	case p[0] == '\\':
		return len(s) > 0 && s[0] == p[1] && matched(p[2:], s[1:])
	}
	return len(s) > 0 && s[0] == p[0] && matched(p[1:], s[1:])
}

// P34.1
func TestCheck(t *testing.T) {
	for _, c := range []struct {
		p   string
		err api.Errno
	}{
		{"", api.ErrShort},
		{"a", api.OK}, {" ", api.OK}, {"*", api.OK}, {"?", api.OK}, {"**??", api.OK}, {"ba*i", api.OK}, {"ŋ\u0301", api.OK}, {"\u0301", api.OK}, {"日本", api.OK}, {"~", api.OK}, {"\u0080", api.OK}, {"\U0010ffff", api.OK},
		{`\*`, api.OK}, {`\?`, api.OK}, {`\\`, api.OK}, {`\\a`, api.OK}, {`\\\*`, api.OK}, {`\\\\`, api.OK}, {`a\*b`, api.OK},
		{`\`, api.ErrForm}, {`\a`, api.ErrForm}, {`\\\`, api.ErrForm}, {`a\`, api.ErrForm}, {`\*\`, api.ErrForm}, {`\*\b`, api.ErrForm}, {`*\`, api.ErrForm}, {`\\\a`, api.ErrForm}, {`\ŋ`, api.ErrForm}, {`\ *`, api.ErrForm},
		{"a\n", api.ErrForm}, {"\x00", api.ErrForm}, {"\x1f*", api.ErrForm}, {"a\x7f", api.ErrForm}, {"\\\x7f", api.ErrForm},
		{"\xff", api.ErrForm}, {"a\xc3", api.ErrForm}, {"\xc0\x80", api.ErrForm}, {"\xed\xa0\x80", api.ErrForm}, {"\\\xff", api.ErrForm},
		{strings.Repeat("a", 64), api.OK}, {strings.Repeat("*", 64), api.OK}, {strings.Repeat("é", 32), api.OK}, {strings.Repeat(`\`, 64), api.OK},
		{strings.Repeat("a", 65), api.ErrLong}, {strings.Repeat("é", 33), api.ErrLong}, {strings.Repeat("\xff", 65), api.ErrLong}, {strings.Repeat(`\`, 65), api.ErrLong}, {strings.Repeat("\n", 200), api.ErrLong}, {strings.Repeat("\xff", 64), api.ErrForm},
	} {
		if err := pattern.Check(c.p); err != c.err {
			t.Errorf("Check(%q) = %d, want %d", c.p, err, c.err)
		}
	}
	for c := range 128 {
		want := api.OK
		if c < 32 || c == 127 || c == '\\' {
			want = api.ErrForm
		}
		if err := pattern.Check(string(rune(c))); err != want {
			t.Errorf("Check of the byte %d = %d", c, err)
		}
		want = api.ErrForm
		if c == '*' || c == '?' || c == '\\' {
			want = api.OK
		}
		if err := pattern.Check(`\` + string(rune(c))); err != want {
			t.Errorf("Check of a backslash and the byte %d = %d", c, err)
		}
	}
}

// P34.2
func TestMatch(t *testing.T) {
	for _, c := range []struct {
		p, s string
		ok   bool
	}{
		{"ba*i", "bami", true}, {"ba*i", "bai", true}, {"ba*i", "baii", true}, {"ba*i", "ba", false}, {"ba*i", "bamix", false}, {"ba*i", "xbami", false}, {"b?mi", "bmi", false}, {"b?mi", "bami", true},
		{"a", "a", true}, {"a", "", false}, {"a", "aa", false}, {"a", "A", false}, {"*", "", true}, {"**", "", true}, {"?", "", false}, {"*?", "", false}, {"*?", "a", true}, {"?*", "a", true}, {"*a*", "", false},
		{"?", "ŋ", true}, {"?", "日", true}, {"??", "日", false}, {"???", "日", false}, {"?", "e\u0301", false}, {"??", "e\u0301", true}, {"e?", "e\u0301", true}, {"e*", "e\u0301", true}, {"e", "e\u0301", false}, {"\u00e9", "e\u0301", false}, {"*\u0301", "e\u0301", true},
		{"e\u0323\u0301", "e\u0323\u0301", true}, {"e\u0323\u0301", "e\u0301\u0323", false},
		{"?", "\n", true}, {"*", "\x00\x7f\n", true}, {"a*", "a\nb", true}, {"?", "\\", true}, {"?", "*", true},
		{`\*`, "*", true}, {`\*`, `\*`, false}, {`\*`, "", false}, {`\*`, "a", false}, {`\?`, "?", true}, {`\?`, "a", false}, {`\\`, `\`, true}, {`\\`, `\\`, false}, {`\\*`, `\abc`, true}, {`\\*`, `*`, false}, {`\\\*`, `\*`, true}, {`\\\*`, `\a`, false}, {`a\*b`, "a*b", true}, {`a\*b`, "axb", false}, {`*\*`, "a*", true}, {`*\*`, "a", false},
		{"*a*b*", "xaxxbx", true}, {"*a*b*", "xbxxax", false}, {"*ab", "aab", true}, {"*ab", "abab", true}, {"*ab", "aba", false}, {"a*ab", "ab", false}, {"a*a", "a", false}, {"a*a", "aa", true}, {"*aab*", "aaaab", true}, {"?*?*?", "ab", false}, {"?*?*?", "abc", true},
		// What is not valid, or no pattern, is not matched.
		{"*", "\xff", false}, {"*", "a\xc3", false}, {"?", "\xff", false}, {"*", "\xed\xa0\x80", false}, {"", "", false}, {"", "a", false}, {`\`, `\`, false}, {`\a`, "a", false}, {`a\`, `a\`, false}, {"\xff", "\xff", false}, {"a\n", "a\n", false}, {strings.Repeat("a", 65), strings.Repeat("a", 65), false},
		{strings.Repeat("a", 64), strings.Repeat("a", 64), true},
	} {
		if ok := pattern.Match(c.p, c.s); ok != c.ok {
			t.Errorf("Match(%q, %q) = %t", c.p, c.s, ok)
		}
	}
}

// P34.2, P34.5, P34.6: all short patterns and strings.
func TestMatchOfShortStrings(t *testing.T) {
	texts := all([]string{"a", "ŋ", "*", `\`}, 4)
	for _, p := range all([]string{"a", "ŋ", "*", "?", `\`}, 5) {
		right := pattern.Check(p) == api.OK
		head := pattern.Head(p)
		for _, s := range texts {
			want := right && matched([]rune(p), []rune(s))
			if ok := pattern.Match(p, s); ok != want {
				t.Fatalf("Match(%q, %q) = %t", p, s, ok)
			}
			if want && !strings.HasPrefix(s, head) {
				t.Fatalf("%q matches %q, and its Head is %q", p, s, head)
			}
		}
	}
}

// P34.2: patterns with many sequences, and long strings.
func TestMatchOfLongStrings(t *testing.T) {
	long := strings.Repeat("a", 100000)
	for p, want := range map[string]bool{
		strings.Repeat("*a", 32): true, strings.Repeat("a*", 31) + "b": false, "*" + strings.Repeat("a", 62) + "b": false, strings.Repeat("*a", 31) + "*b": false, strings.Repeat("?", 64): false, "*" + strings.Repeat("?", 63): true,
	} {
		if ok := pattern.Match(p, long); ok != want {
			t.Errorf("Match(%q) = %t", p, ok)
		}
	}
}

// P34.3, P34.5
func TestPlainAndHead(t *testing.T) {
	for _, c := range []struct {
		p, plain string
		ok       bool
		head     string
	}{
		{"a", "a", true, "a"}, {"abŋ", "abŋ", true, "abŋ"}, {`a\*`, "a*", true, "a*"}, {`\\`, `\`, true, `\`}, {`\?\*\\`, `?*\`, true, `?*\`}, {"e\u0301\u0323", "e\u0301\u0323", true, "e\u0301\u0323"},
		{"a*", "", false, "a"}, {"a?", "", false, "a"}, {"*a", "", false, ""}, {"?", "", false, ""}, {"*", "", false, ""}, {"ŋa?b*", "", false, "ŋa"}, {`ba\?x?y`, "", false, "ba?x"}, {`\**`, "", false, "*"}, {`\\*`, "", false, `\`}, {`\\?a`, "", false, `\`},
		{"", "", false, ""}, {`a\`, "", false, ""}, {`a\b`, "", false, ""}, {"ab\n", "", false, ""}, {"ab\xff", "", false, ""}, {`a*\`, "", false, ""}, {strings.Repeat("a", 65), "", false, ""},
	} {
		if s, ok := pattern.Plain(c.p); s != c.plain || ok != c.ok {
			t.Errorf("Plain(%q) = %q, %t", c.p, s, ok)
		}
		if s := pattern.Head(c.p); s != c.head {
			t.Errorf("Head(%q) = %q, want %q", c.p, s, c.head)
		}
	}
}

// P34.3, P34.5: all short patterns.
func TestPlainAndHeadOfShortPatterns(t *testing.T) {
	texts := all([]string{"a", "*", "?", `\`}, 4)
	for _, p := range all([]string{"a", "*", "?", `\`}, 4) {
		var found []string
		for _, s := range texts {
			if pattern.Check(p) == api.OK && matched([]rune(p), []rune(s)) {
				found = append(found, s)
			}
		}
		// A pattern without * and ? matches a single string, and no other one does so among these.
		s, ok := pattern.Plain(p)
		if ok != (len(found) == 1) || ok && s != found[0] || !ok && s != "" {
			t.Errorf("Plain(%q) = %q, %t, and it matches %q", p, s, ok, found)
		}
		if ok && pattern.Head(p) != s {
			t.Errorf("Head(%q) = %q, Plain is %q", p, pattern.Head(p), s)
		}
	}
}

// P34.4
func TestQuote(t *testing.T) {
	for s, want := range map[string]string{
		"": "", "a": "a", "*": `\*`, "?": `\?`, `\`: `\\`, "a*b?\\c": `a\*b\?\\c`, "**": `\*\*`, "ŋ*": `ŋ\*`, "\xff*\xc3?": "\xff\\*\xc3\\?", "\n": "\n", "\xaa\xbf\xdc": "\xaa\xbf\xdc", strings.Repeat("*", 100): strings.Repeat(`\*`, 100),
	} {
		if got := pattern.Quote(s); got != want {
			t.Errorf("Quote(%q) = %q, want %q", s, got, want)
		}
	}
}

// P34.6
func TestPlainOfQuote(t *testing.T) {
	texts := all([]string{"a", "ŋ", "*", "?", `\`}, 4)
	for _, s := range texts {
		p := pattern.Quote(s)
		if pattern.Check(p) != api.OK {
			if s != "" {
				t.Errorf("Quote(%q) is no pattern", s)
			}
			continue
		}
		if plain, ok := pattern.Plain(p); plain != s || !ok || pattern.Head(p) != s {
			t.Errorf("Plain(%q) = %q, %t, want %q", p, plain, ok, s)
		}
		if !pattern.Match(p, s) {
			t.Errorf("%q does not match %q", p, s)
		}
		for _, other := range []string{"", s + "a", "a" + s, "aa", `\` + s, strings.ToUpper(s)} {
			if pattern.Match(p, other) != (other == s) {
				t.Errorf("Match(%q, %q) = %t", p, other, other != s)
			}
		}
	}
}

// P34.6: what follows a pattern that is followed by *.
func TestMatchBeforeASequence(t *testing.T) {
	texts := all([]string{"a", "b", "*"}, 3)
	endings := []string{"", "a", "\n", "\u0301", "*", "\\", "日本\x00"}
	for _, p := range all([]string{"a", "b", "*", "?", `\`}, 3) {
		if pattern.Check(p+"*") != api.OK {
			continue
		}
		for _, s := range texts {
			if !pattern.Match(p, s) {
				continue
			}
			for _, ending := range endings {
				if !pattern.Match(p+"*", s+ending) {
					t.Errorf("%q matches %q, but with * not %q", p, s, s+ending)
				}
			}
		}
	}
}

// P34.6: patterns of n scalars ?.
func TestMatchOfScalars(t *testing.T) {
	texts := append(all([]string{"a", "\u0301", "日", "\xff", "?"}, 4), strings.Repeat("\U0001f600", 64), strings.Repeat("a", 65))
	for n := 1; n <= 64; n++ {
		for _, s := range texts {
			want := utf8.ValidString(s) && utf8.RuneCountInString(s) == n
			if ok := pattern.Match(strings.Repeat("?", n), s); ok != want {
				t.Fatalf("Match of %d scalars, %q: %t", n, s, ok)
			}
		}
	}
}

// R6: equal arguments give equal results.
func TestResultsRepeat(t *testing.T) {
	var first []bool
	for range 3 {
		var l []bool
		for _, p := range all([]string{"a", "*", "?"}, 3) {
			l = append(l, pattern.Match(p, "aba"))
		}
		if first == nil {
			first = l
		}
		if !slices.Equal(l, first) {
			t.Fatal("the results differ")
		}
	}
}
