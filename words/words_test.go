package words_test

import (
	"fmt"
	"slices"
	"strings"
	"testing"

	"langdoc/words"
)

// wordOf returns the word of a string, from its definition.
func wordOf(s string) string {
	if s == "" {
		return "%-"
	}
	w := ""
	for i := range len(s) {
		if c := s[i]; c >= 128 || c >= 33 && c <= 126 && c != 37 {
			w += s[i : i+1]
		} else {
			w += fmt.Sprintf("%%%02x", c)
		}
	}
	return w
}

// P3.1
func TestQuoteAndUnquote(t *testing.T) {
	for s, w := range map[string]string{
		"": "%-", "a": "a", "a b": "a%20b", "%": "%25", "-": "-", "%-": "%25-", "--": "--", "a%-": "a%25-", "%20": "%2520",
		"\n": "%0a", "\r\n": "%0d%0a", "\x00": "%00", "\x1f \x7f": "%1f%20%7f", "!~": "!~", "\x80\xff": "\x80\xff", "caf\u00e9\u0301": "caf\u00e9\u0301", "\xc3": "\xc3", "  ": "%20%20",
	} {
		if got := words.Quote(s); got != w {
			t.Errorf("Quote(%q) = %q, want %q", s, got, w)
		}
		if got, ok := words.Unquote(w); got != s || !ok {
			t.Errorf("Unquote(%q) = %q, %t, want %q", w, got, ok, s)
		}
	}
}

// P3.1, P3.4: all strings of at most two bytes.
func TestEveryByte(t *testing.T) {
	seen := map[string]bool{"%-": true}
	for a := range 256 {
		for b := -1; b < 256; b++ {
			s := string([]byte{byte(a)})
			if b >= 0 {
				s = string([]byte{byte(a), byte(b)})
			}
			w := words.Quote(s)
			if w != wordOf(s) {
				t.Fatalf("Quote(%q) = %q", s, w)
			}
			if back, ok := words.Unquote(w); back != s || !ok {
				t.Fatalf("Unquote(%q) = %q, %t", w, back, ok)
			}
			if seen[w] || w == "" || strings.ContainsAny(w, " \n") {
				t.Fatalf("Quote(%q) = %q", s, w)
			}
			seen[w] = true
		}
	}
}

// P3.1: what is no word of any string.
func TestUnquoteRefuses(t *testing.T) {
	for _, w := range []string{
		"", "%", "%%", "%2", "a%2", "%20%", "%20%2", "%41", "%2d", "%21", "%7e", "%80", "%ff", "%0A", "%0D", "%1F", "%7F", "a b", " ", " a", "a ", "\n", "a\n", "\x00", "\x1f", "\x7f", "\t",
		"%-a", "a%-", "%-%-", "%--", "%-%20", "%20%-", "%g0", "%0g", "%:0", "%/0", "%`0", "%x0", "% 0", "%0 ", "%+5", "%\xff0", "%0\xff", "%\u00e9", "%%25", "%25%", "%2525%2",
	} {
		if s, ok := words.Unquote(w); s != "" || ok {
			t.Errorf("Unquote(%q) = %q, %t", w, s, ok)
		}
	}
}

// P3.1: a text is a word exactly if it is the word of what it is read as.
func TestShortWords(t *testing.T) {
	const alphabet = "%-0257afAFg ~\n\x80"
	found := 0
	var visit func(w string)
	visit = func(w string) {
		s, ok := words.Unquote(w)
		if ok && wordOf(s) != w || !ok && s != "" {
			t.Fatalf("Unquote(%q) = %q, %t", w, s, ok)
		}
		if ok {
			found++
		}
		if len(w) == 4 {
			return
		}
		for i := range len(alphabet) {
			visit(w + alphabet[i:i+1])
		}
	}
	visit("")
	// Words of plain bytes, of one escape, of an escape beside one plain byte, and the word of the empty string.
	const plain, escapes = len("-0257afAFg~\x80"), len("00 02 05 07 0a 0f 20 25 7f ") / 3
	want := plain + plain*plain + plain*plain*plain + plain*plain*plain*plain + escapes + 2*escapes*plain + 1
	if found != want {
		t.Errorf("%d words, want %d", found, want)
	}
}

// P3.2, P3.4
func TestJoinAndSplit(t *testing.T) {
	for line, l := range map[string][]string{
		"":                  nil,
		"%-":                {""},
		"%- %-":             {"", ""},
		"a":                 {"a"},
		"a b":               {"a", "b"},
		"a%20b":             {"a b"},
		"a b%20c %-":        {"a", "b c", ""},
		"%20 %20":           {" ", " "},
		"%25- %- %0a \xff-": {"%-", "", "\n", "\xff-"},
		"a a a":             {"a", "a", "a"},
	} {
		before := slices.Clone(l)
		if got := words.Join(l); got != line {
			t.Errorf("Join(%q) = %q, want %q", l, got, line)
		}
		if got, ok := words.Split(line); !slices.Equal(got, l) || !ok {
			t.Errorf("Split(%q) = %q, %t, want %q", line, got, ok, l)
		}
		if !slices.Equal(l, before) {
			t.Errorf("the argument %q became %q", before, l)
		}
	}
	if words.Join([]string{}) != "" {
		t.Error("Join of an empty list")
	}
}

// P3.2
func TestSplitRefuses(t *testing.T) {
	for _, line := range []string{" ", "  ", "a  b", " a", "a ", "a b ", " %-", "%- ", "a %41", "%41 a", "a\tb", "a\n", "\n", "a b\nc", "% a", "a %", "%-a b", "a%- b", "a \x00"} {
		if l, ok := words.Split(line); len(l) != 0 || ok {
			t.Errorf("Split(%q) = %q, %t", line, l, ok)
		}
	}
}

// P3.2, P3.4: all lists of at most three of some strings.
func TestSplitReadsJoined(t *testing.T) {
	var visit func(l []string)
	visit = func(l []string) {
		line := words.Join(l)
		if got, ok := words.Split(line); !slices.Equal(got, l) || !ok || strings.Contains(line, "\n") {
			t.Errorf("Split(%q) = %q, %t, want %q", line, got, ok, l)
		}
		if len(l) == 3 {
			return
		}
		for _, s := range []string{"", " ", "-", "%", "%-", "a", "a b", "\n", "\x00\xff", "\u00e9"} {
			visit(append(slices.Clone(l), s))
		}
	}
	visit(nil)
}

// P3.3, P3.4
func TestLinesAndText(t *testing.T) {
	for s, lines := range map[string][]string{
		"":             nil,
		"\n":           {""},
		"\n\n":         {"", ""},
		"a\n":          {"a"},
		"a\n\nb c\n":   {"a", "", "b c"},
		"\na\n":        {"", "a"},
		"a\r\n":        {"a\r"},
		" \x00\xff%\n": {" \x00\xff%"},
	} {
		if got := words.Text(lines); got != s {
			t.Errorf("Text(%q) = %q, want %q", lines, got, s)
		}
		if got, ok := words.Lines(s); !slices.Equal(got, lines) || !ok {
			t.Errorf("Lines(%q) = %q, %t, want %q", s, got, ok, lines)
		}
	}
	if got := words.Text([]string{"a\nb", "\n"}); got != "a\nb\n\n\n" {
		t.Errorf("Text of strings with line feeds = %q", got)
	}
}

// P3.3
func TestLinesRefuses(t *testing.T) {
	for _, s := range []string{"a", " ", "a\nb", "\na", "\n ", "a\n\nb", "a\r", "\x00", "a\n\x00"} {
		if l, ok := words.Lines(s); len(l) != 0 || ok {
			t.Errorf("Lines(%q) = %q, %t", s, l, ok)
		}
	}
}

// P3.4: Text gives again what Lines accepts.
func TestTextOfLines(t *testing.T) {
	var visit func(s string)
	visit = func(s string) {
		l, ok := words.Lines(s)
		if ok != (s == "" || strings.HasSuffix(s, "\n")) || ok && words.Text(l) != s || ok && len(l) != strings.Count(s, "\n") {
			t.Errorf("Lines(%q) = %q, %t", s, l, ok)
		}
		if len(s) == 6 {
			return
		}
		for _, c := range []string{"\n", "a", "\r"} {
			visit(s + c)
		}
	}
	visit("")
}
