package query_test

import (
	"math"
	"math/rand"
	"regexp"
	"strings"
	"testing"

	"langdoc/api"
	"langdoc/pattern"
	"langdoc/query"
	"langdoc/words"
)

// The names of the roles from RoleText on, and of the operators from OpText on.
var (
	roleNames = []string{"text", "word", "morph", "gloss", "free"}
	opNames   = []string{"", "and", "or", "not", "then", "within", "has"}
)

func leaf(role int, p string) api.Query {
	return api.Query{Op: api.OpText, Role: role, Text: p}
}

func not(role int, q api.Query) api.Query {
	return api.Query{Op: api.OpNot, Role: role, Kids: []api.Query{q}}
}

func both(op int, a, b api.Query) api.Query {
	return api.Query{Op: op, Kids: []api.Query{a, b}}
}

// nested returns a query of so many levels.
func nested(levels int) api.Query {
	q := leaf(api.RoleWord, "a")
	for range levels - 1 {
		q = not(api.RoleText, q)
	}
	return q
}

// nestedText returns the text of nested.
func nestedText(levels int) string {
	return strings.Repeat("(not text ", levels-1) + "word:a" + strings.Repeat(")", levels-1)
}

// wide returns a query of so many levels, with two Kids wherever there are any.
func wide(levels int) api.Query {
	if levels == 1 {
		return leaf(api.RoleWord, "a")
	}
	return both(api.OpOr, wide(levels-1), wide(levels-1))
}

// some returns a query of at most so many levels, with one of some patterns in each leaf.
func some(random *rand.Rand, levels int, patterns []string) api.Query {
	role := api.RoleText + random.Intn(5)
	op := random.Intn(7)
	switch {
	case levels == 1 || op == api.OpText:
		return leaf(role, patterns[random.Intn(len(patterns))])
	case op == api.OpNot:
		return not(role, some(random, levels-1, patterns))
	}
	return both(op, some(random, levels-1, patterns), some(random, levels-1, patterns))
}

// text returns the text of a query, from the definition.
func text(q api.Query) string {
	if q.Op == api.OpText {
		var b strings.Builder
		for i := range len(q.Text) {
			switch c := q.Text[i]; c {
			case '(':
				b.WriteString("%28")
			case ')':
				b.WriteString("%29")
			default:
				b.WriteString(words.Quote(string([]byte{c})))
			}
		}
		if q.Text == "" {
			b.WriteString("%-")
		}
		return roleNames[q.Role-1] + ":" + b.String()
	}
	parts := []string{opNames[q.Op]}
	if q.Op == api.OpNot {
		parts = append(parts, roleNames[q.Role-1])
	}
	for _, kid := range q.Kids {
		parts = append(parts, text(kid))
	}
	return "(" + strings.Join(parts, " ") + ")"
}

// P35.1
func TestNodesAndDepth(t *testing.T) {
	a := leaf(api.RoleWord, "a")
	for i, c := range []struct {
		q            api.Query
		nodes, depth int
	}{
		{api.Query{}, 1, 1}, {a, 1, 1}, {not(1, a), 2, 2}, {both(api.OpAnd, a, a), 3, 2}, {both(api.OpAnd, not(1, not(1, a)), a), 5, 4}, {both(api.OpHas, a, both(api.OpThen, a, not(1, a))), 6, 4}, {wide(10), 1023, 10}, {nested(5000), 5000, 5000},
		// Of what is no query, too.
		{api.Query{Op: 99, Kids: []api.Query{a, a, not(0, api.Query{Op: -1})}}, 5, 3}, {api.Query{Kids: make([]api.Query, 1000)}, 1001, 2}, {api.Query{Op: api.OpNot, Kids: []api.Query{}}, 1, 1},
	} {
		if nodes, depth := query.Nodes(c.q), query.Depth(c.q); nodes != c.nodes || depth != c.depth {
			t.Errorf("%d: %d nodes, %d levels", i, nodes, depth)
		}
	}
}

// P35.2, P35.3
func TestCheck(t *testing.T) {
	a := leaf(api.RoleWord, "a")
	chain := a // 59 nodes with those that follow
	for range 29 {
		chain = both(api.OpOr, chain, a)
	}
	flat := both(api.OpAnd, both(api.OpAnd, wide(5), wide(4)), both(api.OpThen, wide(3), not(1, a))) // 31 + 15 + 7 + 2 + 3
	for i, c := range []struct {
		q   api.Query
		err api.Errno
	}{
		{a, api.OK}, {nested(api.MaxDepth), api.OK}, {nested(api.MaxDepth + 1), api.ErrFull}, {both(api.OpOr, a, nested(api.MaxDepth)), api.ErrFull}, {both(api.OpOr, nested(api.MaxDepth-1), nested(api.MaxDepth-1)), api.OK}, {chain, api.ErrFull}, {nested(100000), api.ErrFull},
		{both(api.OpOr, flat, a), api.OK}, {not(1, both(api.OpOr, flat, a)), api.ErrFull}, {both(api.OpOr, flat, not(1, a)), api.ErrFull}, {both(api.OpOr, a, flat), api.OK}, {wide(5), api.OK}, {wide(6), api.ErrFull}, {api.Query{Op: -1, Kids: make([]api.Query, api.MaxNodes-1)}, api.ErrQuery}, {api.Query{Op: -1, Kids: make([]api.Query, api.MaxNodes)}, api.ErrFull},
		{api.Query{Op: -1, Role: 9, Text: "x"}, api.ErrQuery}, {api.Query{Op: 7}, api.ErrQuery}, {api.Query{Op: math.MinInt}, api.ErrQuery}, {api.Query{Op: math.MaxInt, Kids: []api.Query{a, a}}, api.ErrQuery},
		{api.Query{Op: api.OpText, Role: 9, Kids: []api.Query{a}}, api.ErrQuery}, {api.Query{Op: api.OpNot, Role: 9}, api.ErrQuery}, {api.Query{Op: api.OpNot, Role: 1, Kids: []api.Query{a, a}}, api.ErrQuery}, {api.Query{Op: api.OpAnd, Role: 9}, api.ErrQuery}, {api.Query{Op: api.OpOr, Kids: []api.Query{a}}, api.ErrQuery}, {api.Query{Op: api.OpThen, Kids: []api.Query{a, a, a}}, api.ErrQuery}, {api.Query{Op: api.OpWithin, Kids: []api.Query{a}}, api.ErrQuery}, {api.Query{Op: api.OpHas}, api.ErrQuery},
		{leaf(0, ""), api.ErrRange}, {leaf(-1, "a"), api.ErrRange}, {leaf(6, "a"), api.ErrRange}, {leaf(math.MinInt, "a"), api.ErrRange}, {leaf(math.MaxInt, "a"), api.ErrRange}, {not(0, a), api.ErrRange}, {not(6, leaf(9, "a")), api.ErrRange}, {api.Query{Op: api.OpNot, Role: 0, Text: "x", Kids: []api.Query{a}}, api.ErrRange}, {api.Query{Op: api.OpAnd, Role: 2, Text: "x", Kids: []api.Query{a, a}}, api.ErrRange}, {api.Query{Op: api.OpHas, Role: -1, Kids: []api.Query{a, a}}, api.ErrRange},
		{leaf(1, ""), api.ErrShort}, {leaf(2, `\`), api.ErrForm}, {leaf(3, "\n"), api.ErrForm}, {leaf(4, "\xff"), api.ErrForm}, {leaf(5, strings.Repeat("a", 65)), api.ErrLong}, {leaf(5, strings.Repeat("a", 64)), api.OK}, {leaf(1, " "), api.OK}, {leaf(1, "(%)"), api.OK},
		{api.Query{Op: api.OpNot, Role: 1, Text: "a", Kids: []api.Query{a}}, api.ErrArg}, {api.Query{Op: api.OpAnd, Text: " ", Kids: []api.Query{a, a}}, api.ErrArg}, {api.Query{Op: api.OpThen, Text: "a", Kids: []api.Query{leaf(0, ""), a}}, api.ErrArg},
		// Each node comes before its Kids, and these come in order.
		{both(api.OpOr, a, leaf(0, "")), api.ErrRange}, {both(api.OpOr, leaf(1, ""), leaf(0, "")), api.ErrShort}, {both(api.OpOr, not(1, leaf(1, "")), leaf(0, "")), api.ErrShort}, {not(6, api.Query{Op: 9}), api.ErrRange}, {not(5, api.Query{Op: 9}), api.ErrQuery}, {both(api.OpOr, not(1, api.Query{Op: api.OpNot, Role: 1, Text: "a", Kids: []api.Query{leaf(0, "")}}), api.Query{Op: 9}), api.ErrArg},
	} {
		if err := query.Check(c.q); err != c.err {
			t.Errorf("%d: Check = %d, want %d", i, err, c.err)
		}
		if s, err := query.Print(c.q); err != c.err || err != api.OK && s != "" || err == api.OK && s != text(c.q) {
			t.Errorf("%d: Print = %q, %d, want %d", i, s, err, c.err)
		}
	}
}

// P35.2: whoever fills a list of Kids with nodes that have this list makes a query without an end, or one of very many nodes.
func TestCheckOfSharedKids(t *testing.T) {
	endless := make([]api.Query, 2)
	endless[0] = both(api.OpAnd, leaf(1, "a"), leaf(1, "a"))
	endless[0].Kids, endless[1] = endless, leaf(1, "a")
	doubled := leaf(1, "a")
	for range 60 {
		doubled = both(api.OpAnd, doubled, doubled)
	}
	for _, q := range []api.Query{endless[0], doubled} {
		if err := query.Check(q); err != api.ErrFull {
			t.Errorf("Check = %d", err)
		}
		if s, err := query.Print(q); s != "" || err != api.ErrFull {
			t.Errorf("Print = %q, %d", s, err)
		}
	}
}

// P35.3, P35.4
func TestTexts(t *testing.T) {
	a := leaf(api.RoleWord, "a")
	for s, q := range map[string]api.Query{
		"text:a": leaf(1, "a"), "word:ba*": leaf(2, "ba*"), "morph:?": leaf(3, "?"), `gloss:\*`: leaf(4, `\*`), "free:%20": leaf(5, " "), "free:a%20b%25": leaf(5, "a b%"), "word:%28%29": leaf(2, "()"), "word:ŋ~!": leaf(2, "ŋ~!"), "word:%25-": leaf(2, "%-"), "word:-": leaf(2, "-"), "word:%2528": leaf(2, "%28"), "word::": leaf(2, ":"), "word:word:": leaf(2, "word:"),
		"(and word:ba* word:*mi)":                         both(api.OpAnd, leaf(2, "ba*"), leaf(2, "*mi")),
		"(or word:a word:a)":                              both(api.OpOr, a, a),
		"(not text word:a)":                               not(1, a),
		"(not free (not gloss word:a))":                   not(5, not(4, a)),
		"(then word:a word:a)":                            both(api.OpThen, a, a),
		"(within word:a text:a)":                          both(api.OpWithin, a, leaf(1, "a")),
		"(has (has text:a word:a) (not morph word:a))":    both(api.OpHas, both(api.OpHas, leaf(1, "a"), a), not(3, a)),
		"(and word:ba* (not word (has word:* gloss:PL)))": both(api.OpAnd, leaf(2, "ba*"), not(2, both(api.OpHas, leaf(2, "*"), leaf(4, "PL")))),
	} {
		if p, err := query.Print(q); p != s || err != api.OK {
			t.Errorf("Print: %q, %d, want %q", p, err, s)
		}
		if p, at, err := query.Parse(s); !query.Same(p, q) || at != 0 || err != api.OK {
			t.Errorf("Parse(%q): %v, %d, %d", s, p, at, err)
		}
	}
}

// P35.4: the index of the first byte with which no text goes on.
func TestParseErrors(t *testing.T) {
	for s, want := range map[string]int{
		"": 0, "x": 0, " ": 0, ")": 0, "%": 0, "Word:a": 0, "t": 1, "texts": 4, "w:": 1, "word": 4, "word ": 4, "word:": 5, "word: ": 5, "word:)": 5, "word:(": 5, "word:\x00": 5, "morphs:": 5, "glossy": 5, "freq": 3,
		"word:a ": 6, "word:a)": 6, "word:a(": 6, "word:a\n": 6, "word:a\x7f": 6, "word:a b": 6,
		"word:%": 6, "word:%%": 6, "word:%3": 6, "word:%a": 6, "word:%8": 6, "word:% ": 6, "word:%0": 7, "word:%0g": 7, "word:%1A": 7, "word:%1 ": 7, "word:%2": 7, "word:%21": 7, "word:%2a": 7, "word:%2f": 7, "word:%7": 7, "word:%70": 7, "word:%7e": 7, "word:%7F": 7, "word:%20 ": 8, "word:%20%": 9, "word:%20%2": 10, "word:%20%41": 9, "word:a%-": 7, "word:%--": 7, "word:%-a": 7, "word:%-%": 7, "word:%20%-": 9,
		"(": 1, "((": 1, "( and": 1, "(word:a)": 2, "(a": 2, "(an": 3, "(an ": 3, "(ands": 4, "(and": 4, "(and ": 5, "(and  ": 5, "(and)": 4, "(and )": 5, "(no": 3, "(nor": 3, "(not ": 5, "(not x": 5, "(not word": 9, "(not word:a)": 9, "(not word ": 10, "(not word)": 9, "(not word  ": 10, "(t": 2, "(the": 4, "(there": 4, "(within": 7, "(without": 5, "(hat": 3,
		"(or word:a": 10, "(or word:a)": 10, "(or word:a(": 10, "(or word:a ": 11, "(or word:a  ": 11, "(or word:a )": 11, "(or word:a word:b": 17, "(or word:a word:b ": 17, "(or word:a word:b(": 17, "(or word:a word:b)": 0, "(or word:a word:b))": 18, "(or word:a word:b) ": 18, "(or word:a word:b)x": 18, "(or word:%- word:b": 18, "(or word:%-) ": 11, "(not word word:a ": 16, "(not word word:a word:b)": 16, "(not word (not word word:a)": 27, "(not word (not word word:a) ": 27, "(and (and word:a word:b)": 24, "(and (and word:a word:b))": 24, "(and (and word:a word:b) ": 25,
	} {
		wanted := api.ErrQuery
		if want == 0 && len(s) > 10 {
			wanted = api.OK
		}
		if q, at, err := query.Parse(s); err != wanted || at != want || (err != api.OK && !query.Same(q, api.Query{})) {
			t.Errorf("Parse(%q): %v, %d, %d, want %d", s, q, at, err, want)
		}
	}
}

// P35.4: what is the text of a query that Check refuses.
func TestParseOfWhatCheckRefuses(t *testing.T) {
	var long strings.Builder
	for range 31 {
		long.WriteString("(or word:a ")
	}
	chain := "word:a" + strings.Repeat(")", 31)
	for _, c := range []struct {
		s   string
		err api.Errno
	}{
		{"word:%-", api.ErrShort}, {`word:a\`, api.ErrForm}, {`word:\a`, api.ErrForm}, {"word:%0a", api.ErrForm}, {"word:%7f", api.ErrForm}, {"word:\xff", api.ErrForm}, {"word:" + strings.Repeat("a", 65), api.ErrLong}, {"word:" + strings.Repeat("%20", 64), api.OK}, {"word:" + strings.Repeat("%20", 65), api.ErrLong}, {"(and word:%0a word:%-)", api.ErrForm}, {"(and word:%- word:%0a)", api.ErrShort},
		{nestedText(api.MaxDepth), api.OK}, {nestedText(api.MaxDepth + 1), api.ErrFull}, {text(nested(api.MaxDepth + 1)), api.ErrFull}, {nestedText(1 << 16), api.ErrFull}, {text(wide(5)), api.OK}, {text(wide(6)), api.ErrFull}, {long.String() + chain, api.ErrFull}, {text(not(1, nested(20))), api.ErrFull}, {"(and " + text(nested(13)) + " word:%-)", api.ErrFull},
		// What is no text comes first.
		{text(nested(100)) + ")", api.ErrQuery}, {"(and word:%- word:)", api.ErrQuery}, {"(and word:\\ word:a", api.ErrQuery}, {long.String() + chain[1:], api.ErrQuery}, {nestedText(1 << 16)[1:], api.ErrQuery},
	} {
		q, at, err := query.Parse(c.s)
		if err != c.err || err != api.OK && !query.Same(q, api.Query{}) || err != api.ErrQuery && at != 0 {
			t.Errorf("Parse of %d bytes, %.30q: %d, %d, want %d", len(c.s), c.s, at, err, c.err)
		}
	}
	deep := nestedText(1 << 16)
	if _, at, err := query.Parse(deep[:len(deep)-1]); at != len(deep)-1 || err != api.ErrQuery {
		t.Errorf("Parse of the beginning of a deep query: %d, %d", at, err)
	}
	if _, at, err := query.Parse(deep + " "); at != len(deep) || err != api.ErrQuery {
		t.Errorf("Parse of more than a deep query: %d, %d", at, err)
	}
}

// P35.4: each byte in each place of a word.
func TestParseOfEachByte(t *testing.T) {
	for i := range 256 {
		c := string([]byte{byte(i)})
		word := words.Quote(c)
		if c == "(" || c == ")" {
			word = "%2" + string('8'+c[0]-'(')
		}
		want := pattern.Check("\\\\" + c)
		if q, at, err := query.Parse(`word:\\` + word); err != want || at != 0 || err == api.OK && q.Text != "\\\\"+c {
			t.Errorf("the byte %d: %v, %d, %d", i, q, at, err)
		}
		if c == word || c == "%" {
			continue
		}
		for s, want := range map[string]int{"word:" + c: 5, "word:a" + c: 6, "(and word:a word:a" + c: 18, "word:%2" + c: 7} {
			if q, at, err := query.Parse(s); (err != api.ErrQuery || at != want) && !(c == ")" && at == 0 && err == api.OK) {
				t.Errorf("Parse(%q): %v, %d, %d", s, q, at, err)
			}
		}
	}
}

// grammar is two regular expressions: for the texts of something, and for their beginnings.
type grammar struct{ whole, begin string }

// literal is a string.
func literal(s string) grammar {
	begin := ""
	for i := len(s) - 1; i >= 0; i-- {
		begin = "(?:" + regexp.QuoteMeta(s[i:i+1]) + begin + ")?"
	}
	return grammar{regexp.QuoteMeta(s), begin}
}

// class is one of some bytes.
func class(s string) grammar { return grammar{s, s + "?"} }

// alternatives is one of some grammars.
func alternatives(l ...grammar) grammar {
	var whole, begin []string
	for _, g := range l {
		whole, begin = append(whole, g.whole), append(begin, g.begin)
	}
	return grammar{"(?:" + strings.Join(whole, "|") + ")", "(?:" + strings.Join(begin, "|") + ")"}
}

// sequence is all of some grammars, one after the other.
func sequence(l ...grammar) grammar {
	g := literal("")
	for i := len(l) - 1; i >= 0; i-- {
		g = grammar{l[i].whole + g.whole, "(?:" + l[i].begin + "|" + l[i].whole + g.begin + ")"}
	}
	return g
}

// repeated is any number of a grammar, at least one.
func repeated(g grammar) grammar {
	return grammar{"(?:" + g.whole + ")+", "(?:" + g.whole + ")*" + g.begin}
}

// names is one of some strings.
func names(l []string) grammar {
	var g []grammar
	for _, s := range l {
		g = append(g, literal(s))
	}
	return alternatives(g...)
}

// texts is the grammar of the texts of queries of at most so many levels.
func texts(levels int) grammar {
	escape := sequence(literal("%"), alternatives(sequence(class("[01]"), class("[0-9a-f]")), sequence(literal("2"), class("[0589]")), literal("7f")))
	word := alternatives(literal("%-"), repeated(alternatives(class("[^\\x00-\\x20%()\\x7f]"), escape)))
	g := sequence(names(roleNames), literal(":"), word)
	if levels == 1 {
		return g
	}
	q := texts(levels - 1)
	pairs := sequence(literal("("), names([]string{"and", "or", "then", "within", "has"}), literal(" "), q, literal(" "), q, literal(")"))
	return alternatives(g, pairs, sequence(literal("(not "), names(roleNames), literal(" "), q, literal(")")))
}

// P35.4: the index, from the definition, where the texts and their beginnings are described by regular expressions.
func TestParseAgainstGrammar(t *testing.T) {
	g := texts(4)
	whole, begin := regexp.MustCompile("^(?:"+g.whole+")$"), regexp.MustCompile("^(?:"+g.begin+")")
	begin.Longest()
	random := rand.New(rand.NewSource(35))
	const bytes = "atwmgfdnohx ()%:-01258f*\\\x7f"
	tokens := []string{"(and ", "(or ", "(not word ", "(not ", "word", "word:", "text:", "a", "%20", "%-", " ", ")", "%2", ":"}
	accepted := 0
	for i := range 6000 {
		s := text(some(random, 3, []string{"a", "", " ", "(%", "\x7f*", `\`}))
		switch at := random.Intn(len(s) + 1); i % 6 {
		case 0:
			s = s[:at]
		case 1:
			s = s[:at] + bytes[random.Intn(len(bytes)):][:1] + s[at:]
		case 2:
			s = s[:at] + bytes[random.Intn(len(bytes)):][:1] + s[min(at+1, len(s)):]
		case 3:
			s = s[:at] + s[min(at+1, len(s)):]
		case 4:
			s = ""
			for range 8 {
				if next := tokens[random.Intn(len(tokens))]; strings.Count(s+next, "(") <= 3 {
					s += next
				}
			}
		}
		_, at, err := query.Parse(s)
		if whole.MatchString(s) {
			accepted++
			if err == api.ErrQuery || at != 0 {
				t.Fatalf("Parse(%q): %d, %d", s, at, err)
			}
		} else if want := len(begin.FindString(s)); err != api.ErrQuery || at != want {
			t.Fatalf("Parse(%q): %d, %d, want %d", s, at, err, want)
		}
	}
	if accepted < 1000 || accepted > 5000 {
		t.Errorf("%d of the strings are texts", accepted)
	}
}

// P35.5
func TestSame(t *testing.T) {
	a, b := leaf(2, "a"), leaf(2, "b")
	for i, c := range []struct {
		x, y api.Query
		same bool
	}{
		{a, a, true}, {a, b, false}, {a, leaf(3, "a"), false}, {a, api.Query{Op: 9, Role: 2, Text: "a"}, false}, {api.Query{}, api.Query{Kids: []api.Query{}}, true}, {not(1, api.Query{}), not(1, api.Query{Kids: []api.Query{}}), true},
		{both(api.OpAnd, a, b), both(api.OpAnd, a, b), true}, {both(api.OpAnd, a, b), both(api.OpAnd, b, a), false}, {both(api.OpAnd, a, b), both(api.OpOr, a, b), false}, {not(1, a), both(api.OpNot, a, a), false}, {not(1, not(1, a)), not(1, not(1, b)), false}, {not(1, a), not(2, a), false}, {api.Query{Op: -5, Kids: []api.Query{{Op: 77}}}, api.Query{Op: -5, Kids: []api.Query{{Op: 77}}}, true}, {a, api.Query{Role: 2, Text: "a", Kids: []api.Query{{}}}, false}, {nested(5000), nested(5000), true}, {nested(5000), nested(5001), false},
	} {
		if query.Same(c.x, c.y) != c.same || query.Same(c.y, c.x) != c.same {
			t.Errorf("%d: Same is not %t", i, c.same)
		}
	}
}

// P35.6
func TestLaws(t *testing.T) {
	random := rand.New(rand.NewSource(356))
	patterns := []string{"a", "ba*", "*", "?", `\?`, " ", "%", "(", ")", "(a b)", "%28", "ŋ\u0301", "word:a", "%-", "~", "-", "\u0080"}
	for range 1000 {
		q := some(random, 4, patterns)
		s, err := query.Print(q)
		if want := text(q); s != want || err != api.OK {
			t.Fatalf("Print(%v) = %q, %d, want %q", q, s, err, want)
		}
		parsed, at, err := query.Parse(s)
		if !query.Same(parsed, q) || at != 0 || err != api.OK {
			t.Fatalf("Parse(%q) = %v, %d, %d", s, parsed, at, err)
		}
		for i := 0; i < len(s) && q.Op != api.OpText; i++ {
			if _, at, err := query.Parse(s[:i]); at != i || err != api.ErrQuery {
				t.Fatalf("Parse(%q) = %d, %d", s[:i], at, err)
			}
		}
		// What Parse returns for another text prints as this one, and what follows the index of an error does not matter.
		i := random.Intn(len(s))
		changed := s[:i] + "aw(% )2"[random.Intn(7):][:1] + s[i+1:]
		parsed, at, err = query.Parse(changed)
		if printed, other := query.Print(parsed); err == api.OK && (printed != changed || other != api.OK) {
			t.Fatalf("Parse(%q) = %v, of which Print is %q", changed, parsed, printed)
		}
		if err != api.ErrQuery || at == len(changed) {
			continue
		}
		for _, rest := range []string{"", "a", ")", s, "\x00\xff"} {
			if _, again, err := query.Parse(changed[:at+1] + rest); again != at || err != api.ErrQuery {
				t.Fatalf("Parse(%q) = %d, %d", changed[:at+1]+rest, again, err)
			}
		}
	}
}

// R5: the queries that Parse returns share no memory.
func TestMemory(t *testing.T) {
	const s = "(and (or word:a word:b) (not word (or word:c word:d)))"
	q, _, err := query.Parse(s)
	if err != api.OK {
		t.Fatal(err)
	}
	clear(q.Kids[1].Kids[0].Kids)
	if p, err := query.Print(q.Kids[0]); p != "(or word:a word:b)" || err != api.OK {
		t.Errorf("%q, %d", p, err)
	}
}
