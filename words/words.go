// Package words is layer 3: words and lines. See shared/doc/03-words.md.
package words

import "strings"

const (
	digits = "0123456789abcdef"
	// empty is the word of the empty string; no other word has a minus sign after a percent sign.
	empty = "%-"
)

// Quote is specified in P3.1.
func Quote(s string) string {
	if s == "" {
		return empty
	}
	var b strings.Builder
	for at := range len(s) {
		c := s[at]
		if isPlain(c) {
			b.WriteByte(c)
		} else {
			b.WriteByte('%')
			b.WriteByte(digits[c>>4])
			b.WriteByte(digits[c&15])
		}
	}
	return b.String()
}

// Unquote is specified in P3.1.
func Unquote(w string) (string, bool) {
	if w == empty {
		return "", true
	}
	// Any string may be decoded, but only a word is what Quote writes again.
	s := decoded(w)
	if Quote(s) != w {
		return "", false
	}
	return s, true
}

// Join is specified in P3.2.
func Join(l []string) string {
	quoted := make([]string, len(l))
	for i, s := range l {
		quoted[i] = Quote(s)
	}
	return blanked(quoted...)
}

// Split is specified in P3.2.
func Split(line string) ([]string, bool) {
	if line == "" {
		return nil, true
	}
	var l []string
	for w := range strings.SplitSeq(line, " ") {
		s, ok := Unquote(w)
		if !ok {
			return nil, false
		}
		l = append(l, s)
	}
	return l, true
}

// Lines is specified in P3.3.
func Lines(s string) ([]string, bool) {
	if s == "" {
		return nil, true
	}
	parts, ok := strings.CutSuffix(s, "\n")
	if !ok {
		return nil, false
	}
	return strings.Split(parts, "\n"), true
}

// Text is specified in P3.3.
func Text(lines []string) string {
	var b strings.Builder
	for _, line := range lines {
		b.WriteString(line)
		b.WriteByte('\n')
	}
	return b.String()
}

// isPlain reports whether a byte represents itself in a word.
func isPlain(c byte) bool {
	return c > ' ' && c != '%' && c != 127
}

// decoded replaces each percent sign and the two digits after it by their byte; the result for other bytes there does not matter.
func decoded(w string) string {
	var b strings.Builder
	for at := 0; at < len(w); at++ {
		c := w[at]
		if c == '%' && at+2 < len(w) {
			c = digit(w[at+1])<<4 | digit(w[at+2])
			at += 2
		}
		b.WriteByte(c)
	}
	return b.String()
}

func digit(c byte) byte {
	return byte(strings.IndexByte(digits, c))
}

func blanked(quoted ...string) string {
	return strings.Join(quoted, " ")
}
