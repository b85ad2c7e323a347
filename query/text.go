package query

import (
	"strings"

	"langdoc/api"
	"langdoc/words"
)

const (
	// The words of parentheses, which stand around nodes, and of the empty pattern.
	opening = "%28"
	closing = "%29"
	empty   = "%-"

	percent = '%'
	del     = 127
)

// start is how the text of a node begins, and the node without its pattern and Kids.
type start struct {
	text string
	node api.Query
}

// reader reads the text of a query. It stays at the first byte with which no text can go on.
type reader struct {
	text  string
	at    int
	heads []start
	open  []api.Query // the nodes whose texts have begun and not ended, each in the one before it
}

// written returns the text of a query.
func written(q api.Query) string {
	o := operatorOf(q.Op)
	begin := head(o, q.Role)
	if o.kids() == 0 {
		return begin + quote(q.Text)
	}
	var kids []string
	for _, kid := range q.Kids {
		kids = append(kids, written(kid))
	}
	return begin + strings.Join(kids, " ") + ")"
}

// quote returns the word of a pattern.
func quote(p string) string {
	return strings.NewReplacer("(", opening, ")", closing).Replace(words.Quote(p))
}

// unquote returns the pattern of a word.
func unquote(w string) string {
	p, _ := words.Unquote(strings.NewReplacer(opening, "(", closing, ")").Replace(w))
	return p
}

// allHeads returns the beginnings of the texts of all nodes; none of them is the beginning of another one.
func allHeads() []start {
	var l []start
	for op := api.OpText; op <= api.OpHas; op++ {
		o := operatorOf(op)
		for role := api.RoleNone; role <= api.RoleFree; role++ {
			if hasRole(o, role) {
				l = append(l, start{head(o, role), api.Query{Op: op, Role: role}})
			}
		}
	}
	return l
}

// query reads the text of a query. There may be any number of levels, so that they are kept in a list, and not by calls.
func (r *reader) query() (api.Query, bool) {
	for {
		q, ok := r.head()
		if !ok {
			return api.Query{}, false
		}
		if operatorOf(q.Op).kids() > 0 {
			r.open = append(r.open, q)
			continue
		}
		if q.Text, ok = r.word(); !ok {
			return api.Query{}, false
		}
		if q, ok = r.close(q); !ok || len(r.open) == 0 {
			return q, ok
		}
	}
}

// head reads the beginning of a node, and returns what it says.
func (r *reader) head() (api.Query, bool) {
	longest := 0
	for _, h := range r.heads {
		same := shared(h.text, r.text[r.at:])
		if same == len(h.text) {
			r.at += same
			return h.node, true
		}
		longest = max(longest, same)
	}
	r.at += longest
	return api.Query{}, false
}

// close puts a node whose text has ended into the one that is open, and goes on with this if its text ends, too. It returns the query if nothing is open any more.
func (r *reader) close(q api.Query) (api.Query, bool) {
	for len(r.open) > 0 {
		last := len(r.open) - 1
		parent := r.open[last]
		parent.Kids = append(parent.Kids, q)
		if len(parent.Kids) < operatorOf(parent.Op).kids() {
			r.open[last] = parent
			_, ok := r.oneOf(" ")
			return api.Query{}, ok
		}
		if _, ok := r.oneOf(")"); !ok {
			return api.Query{}, false
		}
		r.open = r.open[:last]
		q = parent
	}
	return q, true
}

// word reads the word of a pattern, and returns the pattern.
func (r *reader) word() (string, bool) {
	if strings.HasPrefix(r.text[r.at:], empty) {
		r.at += len(empty)
		return "", true
	}
	begin := r.at
	for r.at < len(r.text) {
		c := r.text[r.at]
		if c != percent && !isPlain(c) {
			break
		}
		r.at++
		if c == percent && !r.digits() {
			return "", false
		}
	}
	return unquote(r.text[begin:r.at]), r.at > begin
}

// digits reads the two digits of a byte that does not represent itself.
func (r *reader) digits() bool {
	high, ok := r.oneOf("0127")
	if !ok {
		return false
	}
	low := "0123456789abcdef" // of the bytes below 32
	switch high {
	case '2':
		low = "0589" // of the blank, the percent sign and the parentheses
	case '7':
		low = "f" // of the byte 127
	}
	_, ok = r.oneOf(low)
	return ok
}

// oneOf reads one of some bytes, and returns it.
func (r *reader) oneOf(set string) (byte, bool) {
	if r.at == len(r.text) || strings.IndexByte(set, r.text[r.at]) < 0 {
		return 0, false
	}
	r.at++
	return r.text[r.at-1], true
}

// shared returns how many bytes two strings have in common at their beginnings.
func shared(a, b string) int {
	n := 0
	for n < len(a) && n < len(b) && a[n] == b[n] {
		n++
	}
	return n
}

// isPlain reports whether a byte represents itself in the word of a pattern.
func isPlain(c byte) bool {
	return c > ' ' && c != percent && c != '(' && c != ')' && c != del
}
