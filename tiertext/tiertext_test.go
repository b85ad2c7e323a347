package tiertext_test

import (
	"math"
	"math/rand"
	"slices"
	"strconv"
	"strings"
	"testing"

	"langdoc/api"
	"langdoc/sample"
	"langdoc/sums"
	"langdoc/tiers"
	"langdoc/tiertext"
	"langdoc/words"
)

// two returns a document of two tiers and two notes, and twoLines its lines.
func two() api.Doc {
	return api.Doc{
		Rec:   api.Recording{Id: 3, Name: "tape", Length: 900, Day: 5, Speakers: []int{1, 4}},
		Tiers: []api.Tier{{Name: "text", Role: api.RoleText, Parent: -1}, {Name: "morph", Kind: api.TierSeries, Parent: 0}},
		Notes: []api.Note{{Id: 7, Span: api.Span{From: 10, To: 400}, Text: "ba mi"}, {Id: 9, Tier: 1, Parent: 7}, {Id: 10, Tier: 1, Parent: 7, Rank: 1, Text: "\u00e9%~"}},
	}
}

func twoLines() []string {
	return []string{"recording 3 tape 900 5 1 4", "tier text 0 1 -1", "tier morph 3 0 0", "note 7 0 0 10 400 0 ba%20mi", "note 9 1 7 0 0 0 %-", "note 10 1 7 0 0 1 \u00e9%25~"}
}

// text returns the lines with the line feeds behind them.
func text(lines ...string) string {
	return strings.Join(lines, "\n") + "\n"
}

// P15.1, P15.3
func TestPrint(t *testing.T) {
	s, err := tiertext.Print(two())
	if want := text(twoLines()...); s != want || err != api.OK || tiertext.Sum(two()) != sums.Hash([]byte(want)) {
		t.Errorf("Print: %q, %d", s, err)
	}
	bare := api.Doc{Rec: api.Recording{Id: api.MaxNum, Name: "a-1_", Length: api.MaxMs, Day: api.MaxDay, Speakers: []int{api.MaxNum}}}
	if s, err := tiertext.Print(bare); s != "recording 1099511627776 a-1_ 86400000 109573 1099511627776\n" || err != api.OK {
		t.Errorf("Print without tiers: %q, %d", s, err)
	}
	first := api.Doc{Rec: api.Recording{Id: 1, Name: "a", Length: 1, Day: 1, Speakers: []int{1}}}
	if s, err := tiertext.Print(first); s != "recording 1 a 1 1 1\n" || err != api.OK {
		t.Errorf("Print of the least numbers: %q, %d", s, err)
	}
	many := two()
	many.Rec.Speakers = nil
	for i := range 1000 {
		many.Rec.Speakers = append(many.Rec.Speakers, i+1)
	}
	if s, err := tiertext.Print(many); err != api.OK || !strings.Contains(s, " 999 1000\ntier ") {
		t.Errorf("Print with many speakers: %q, %d", s, err)
	}
	if d, _, err := tiertext.Parse("recording 1 a 1 1 1 2 3 1099511627776\n"); err != api.OK || !slices.Equal(d.Rec.Speakers, []int{1, 2, 3, api.MaxNum}) {
		t.Error("Parse of speakers:", d, err)
	}
}

// P15.1, P15.3
func TestPrintErrors(t *testing.T) {
	for i, c := range []struct {
		turn func(d *api.Doc)
		err  api.Errno
	}{
		{func(d *api.Doc) { d.Rec.Id = 0 }, api.ErrArg}, {func(d *api.Doc) { d.Rec.Id = -1 }, api.ErrArg}, {func(d *api.Doc) { d.Rec.Id = api.MaxNum + 1 }, api.ErrArg}, {func(d *api.Doc) { d.Rec.Id = math.MinInt }, api.ErrArg},
		{func(d *api.Doc) { d.Rec.Name = "" }, api.ErrArg}, {func(d *api.Doc) { d.Rec.Name = "Tape" }, api.ErrArg}, {func(d *api.Doc) { d.Rec.Name = "a b" }, api.ErrArg}, {func(d *api.Doc) { d.Rec.Name = strings.Repeat("a", api.MaxName+1) }, api.ErrArg},
		{func(d *api.Doc) { d.Rec.Length, d.Notes = 0, nil }, api.ErrArg}, {func(d *api.Doc) { d.Rec.Length, d.Notes = -1, nil }, api.ErrTime}, {func(d *api.Doc) { d.Rec.Length = api.MaxMs + 1 }, api.ErrTime},
		{func(d *api.Doc) { d.Rec.Day = 0 }, api.ErrArg}, {func(d *api.Doc) { d.Rec.Day = api.MaxDay + 1 }, api.ErrArg}, {func(d *api.Doc) { d.Rec.Day = math.MinInt }, api.ErrArg},
		{func(d *api.Doc) { d.Rec.Speakers = nil }, api.ErrArg}, {func(d *api.Doc) { d.Rec.Speakers = []int{4, 1} }, api.ErrArg}, {func(d *api.Doc) { d.Rec.Speakers = []int{4, 4} }, api.ErrArg}, {func(d *api.Doc) { d.Rec.Speakers = []int{0, 4} }, api.ErrArg}, {func(d *api.Doc) { d.Rec.Speakers = []int{-1} }, api.ErrArg}, {func(d *api.Doc) { d.Rec.Speakers = []int{1, api.MaxNum + 1} }, api.ErrArg},
		// The error of the document comes first.
		{func(d *api.Doc) { d.Notes[1].Parent = 9; d.Rec.Id = 0 }, api.ErrParent}, {func(d *api.Doc) { d.Tiers[0].Name = "A"; d.Rec.Name = "A" }, api.ErrName}, {func(d *api.Doc) { d.Notes[0].Text = "\n"; d.Rec.Speakers = nil }, api.ErrForm}, {func(d *api.Doc) { d.Notes = make([]api.Note, api.MaxNotes+1) }, api.ErrFull}, {func(d *api.Doc) { *d = api.Doc{} }, api.ErrArg},
	} {
		d := two()
		c.turn(&d)
		if s, err := tiertext.Print(d); s != "" || err != c.err || tiertext.Sum(d) != 0 {
			t.Errorf("%d: Print: %q, %d, want %d; Sum: %d", i, s, err, c.err, tiertext.Sum(d))
		}
	}
}

// P15.2: single lines of the text.
func TestParseLines(t *testing.T) {
	for i, c := range []struct {
		line int // from 1
		text string
		n    int
		err  api.Errno
	}{
		// A recording; numbers and names that have the form, but are not right, come after the lines.
		{1, "recording 3 tape 900 5", 0, api.ErrArg}, {1, "recording 3 tape 900 5 4 1", 0, api.ErrArg}, {1, "recording 0 tape 900 5 1", 0, api.ErrArg}, {1, "recording 3 Tape 900 5 1", 0, api.ErrArg}, {1, "recording 3 %- 900 5 1", 0, api.ErrArg}, {1, "recording 3 ta%20pe 900 5 1", 0, api.ErrArg}, {1, "recording 3 tape 900 0 1", 0, api.ErrArg}, {1, "recording 3 tape 399 5 1", 0, api.ErrTime}, {1, "recording 3 tape -1 5 1", 0, api.ErrTime},
		{1, "recording 3 tape 900", 1, api.ErrForm}, {1, "recording", 1, api.ErrForm}, {1, "", 1, api.ErrForm}, {1, "Recording 3 tape 900 5 1", 1, api.ErrForm}, {1, "recording x tape 900 5 1", 1, api.ErrForm}, {1, "recording 3 tape x 5 1", 1, api.ErrForm}, {1, "recording 3 tape 900 x 1", 1, api.ErrForm}, {1, "recording 3 tape 900 5 x", 1, api.ErrForm}, {1, "recording 3 tape 900 5 1 4 x", 1, api.ErrForm}, {1, "recording 3 tape 900 5 %-", 1, api.ErrForm}, {1, "recording 03 tape 900 5 1", 1, api.ErrForm}, {1, "recording +3 tape 900 5 1", 1, api.ErrForm}, {1, "recording 3 tape 900 5 1 ", 1, api.ErrForm}, {1, " recording 3 tape 900 5 1", 1, api.ErrForm}, {1, "recording 1099511627777 tape 900 5 1", 1, api.ErrForm}, {1, "%72ecording 3 tape 900 5 1", 1, api.ErrForm},
		{1, "tier text 0 1 -1", 1, api.ErrForm}, {1, "note 7 0 0 0 400 0 a", 1, api.ErrForm}, {2, "recording 3 tape 900 5 1", 2, api.ErrForm}, {4, "recording 3 tape 900 5 1", 4, api.ErrForm}, {6, "recording 3 tape 900 5 1", 6, api.ErrForm},
		// A tier.
		{2, "tier text 0 1 -1 0", 2, api.ErrForm}, {2, "tier text 0 1", 2, api.ErrForm}, {2, "tier", 2, api.ErrForm}, {2, "tier  text 0 1 -1", 2, api.ErrForm}, {2, "tiers text 0 1 -1", 2, api.ErrForm}, {2, "tier text x 1 -1", 2, api.ErrForm}, {2, "tier text 0 x -1", 2, api.ErrForm}, {2, "tier text 0 1 x", 2, api.ErrForm}, {2, "tier text 0 1 -01", 2, api.ErrForm}, {2, "tier text -1099511627777 1 -1", 2, api.ErrForm}, {3, "", 3, api.ErrForm},
		{2, "tier text 0 1 0", 0, api.ErrParent}, {2, "tier Text 0 1 -1", 0, api.ErrName}, {2, "tier %- 0 1 -1", 0, api.ErrName}, {2, "tier text 9 1 -1", 0, api.ErrKind}, {2, "tier text 1099511627776 1 -1", 0, api.ErrKind}, {3, "tier text 3 0 0", 0, api.ErrTwice}, {3, "note 6 0 0 500 600 0 a", 0, api.ErrRange},
		// A note, and a tier after one.
		{4, "note 7 0 0 10 400 0", 4, api.ErrForm}, {4, "note 7 0 0 10 400 0 a b", 4, api.ErrForm}, {4, "note", 4, api.ErrForm}, {4, "note x 0 0 10 400 0 a", 4, api.ErrForm}, {4, "note 7 x 0 10 400 0 a", 4, api.ErrForm}, {4, "note 7 0 x 10 400 0 a", 4, api.ErrForm}, {4, "note 7 0 0 x 400 0 a", 4, api.ErrForm}, {4, "note 7 0 0 10 x 0 a", 4, api.ErrForm}, {4, "note 7 0 0 10 400 x a", 4, api.ErrForm}, {4, "note 7 0 0 10 400 -0 a", 4, api.ErrForm}, {4, "note 7 0 0 10 400 0 a%41", 4, api.ErrForm}, {4, "note 7 0 0 10 400 0 a%", 4, api.ErrForm}, {4, "note 7 0 0 10 400 0 ", 4, api.ErrForm}, {4, "note 7 0 0 10 400 0 a\x7f", 4, api.ErrForm}, {4, "note 7 0 0 10 400 0 a\r", 4, api.ErrForm},
		{4, "note 7 0 0 10 400 0 a%0ab", 0, api.ErrForm}, {4, "note 7 0 0 10 400 0 \xff", 0, api.ErrForm}, {4, "note 7 0 0 10 901 0 a", 0, api.ErrTime}, {4, "tier x 0 0 -1", 0, api.ErrParent}, {5, "tier x 0 0 -1", 5, api.ErrForm}, {6, "tier x 0 0 -1", 6, api.ErrForm}, {5, "note 7 0 0 500 600 0 a", 0, api.ErrOrder}, {6, "", 6, api.ErrForm}, {6, "end", 6, api.ErrForm},
	} {
		l := twoLines()
		l[c.line-1] = c.text
		d, n, err := tiertext.Parse(text(l...))
		if n != c.n || err != c.err || !tiers.Same(d, api.Doc{}) {
			t.Errorf("%d: %q: %v, %d, %d, want %d, %d", i, c.text, d, n, err, c.n, c.err)
		}
	}
}

// P15.2: whole texts.
func TestParse(t *testing.T) {
	d, n, err := tiertext.Parse(text(twoLines()...))
	if !tiers.Same(d, two()) || n != 0 || err != api.OK {
		t.Error("Parse:", d, n, err)
	}
	l := twoLines()
	for i, c := range []struct {
		s   string
		n   int
		err api.Errno
	}{
		{"", 0, api.ErrShort}, {"x", 0, api.ErrForm}, {" ", 0, api.ErrForm}, {"\n", 1, api.ErrForm}, {"\n\n", 1, api.ErrForm}, {"x\ny", 0, api.ErrForm}, {"x\ny\n", 1, api.ErrForm}, {l[0], 0, api.ErrForm}, {text(l...) + "x", 0, api.ErrForm}, {text(l...) + "\n", 7, api.ErrForm}, {"\n" + text(l...), 1, api.ErrForm}, {text(l[1:]...), 1, api.ErrForm}, {"\x00\n", 1, api.ErrForm},
		// The first line decides.
		{text(l[0], "x", "y"), 2, api.ErrForm}, {text("x", l[1], "y"), 1, api.ErrForm}, {text(l[0], l[3], l[1], "x"), 3, api.ErrForm}, {text(l[0], l[1], "tier a 9 9 9", "tier b", "x"), 4, api.ErrForm},
		{text(l[0], l[3]), 0, api.ErrRange}, {text(l[0], l[1], l[4]), 0, api.ErrRange}, {text(l[0], l[1], l[2], l[4]), 0, api.ErrParent}, {text(l[0], l[1], l[3], l[3]), 0, api.ErrOrder}, {text(l[0], l[1], l[3], l[4]), 0, api.ErrRange},
		{text(l[0], strings.Repeat(text(l[1]), 50)+"x"), 52, api.ErrForm}, {text(l[0]) + strings.Repeat(text(l[1]), 50), 0, api.ErrFull}, {text(l[0], l[1]) + strings.Repeat(text(l[3]), 301), 0, api.ErrFull}, {text(l[0], l[1]) + strings.Repeat(text(l[3]), 301) + "\n", 304, api.ErrForm}, {strings.Repeat(text(l[0]), 100000), 2, api.ErrForm},
	} {
		d, n, err := tiertext.Parse(c.s)
		if n != c.n || err != c.err || !tiers.Same(d, api.Doc{}) {
			t.Errorf("%d: %v, %d, %d, want %d, %d", i, d, n, err, c.n, c.err)
		}
	}
	for _, s := range []string{text(l[0]), text(l[:2]...), text(l[:3]...), text(l[:4]...), text(l[:5]...), text(l[0], l[1], l[3])} {
		d, n, err := tiertext.Parse(s)
		if again, _ := tiertext.Print(d); n != 0 || err != api.OK || again != s {
			t.Errorf("Parse of %q: %v, %d, %d", s, d, n, err)
		}
	}
}

// printed returns the printed form of a document, from the definition.
func printed(d api.Doc) string {
	of := func(name string, l ...any) string {
		for _, x := range l {
			switch x := x.(type) {
			case int:
				name += " " + strconv.Itoa(x)
			case string:
				name += " " + words.Quote(x)
			}
		}
		return name
	}
	speakers := []any{d.Rec.Id, d.Rec.Name, d.Rec.Length, d.Rec.Day}
	for _, id := range d.Rec.Speakers {
		speakers = append(speakers, id)
	}
	lines := []string{of("recording", speakers...)}
	for _, x := range d.Tiers {
		lines = append(lines, of("tier", x.Name, x.Kind, x.Role, x.Parent))
	}
	for _, n := range d.Notes {
		lines = append(lines, of("note", n.Id, n.Tier, n.Parent, n.Span.From, n.Span.To, n.Rank, n.Text))
	}
	return text(lines...)
}

// P15.1 to P15.4: of many documents, and of texts that were changed somewhere.
func TestManyDocuments(t *testing.T) {
	random := rand.New(rand.NewSource(15))
	accepted := 0
	for range 1500 {
		d := sample.Doc(random.Intn)
		s, err := tiertext.Print(d)
		if err != api.OK || s != printed(d) || tiertext.Sum(d) != sums.Hash([]byte(s)) {
			t.Fatalf("Print of %v: %q, %d", d, s, err)
		}
		if e, n, err := tiertext.Parse(s); !tiers.Same(e, d) || n != 0 || err != api.OK {
			t.Fatalf("Parse of %q: %v, %d, %d", s, e, n, err)
		}
		for range 30 {
			at := random.Intn(len(s))
			part := "0123456789 %\nabt-"[random.Intn(17):][:1]
			bent := s[:at] + []string{"", part, part + s[at:at+1]}[random.Intn(3)] + s[at+1:]
			e, n, err := tiertext.Parse(bent)
			if err != api.OK {
				if !tiers.Same(e, api.Doc{}) || n > 0 && err != api.ErrForm || n > strings.Count(bent, "\n") {
					t.Fatalf("Parse of %q: %v, %d, %d", bent, e, n, err)
				}
				continue
			}
			accepted++
			if again, err := tiertext.Print(e); again != bent || err != api.OK || n != 0 || tiers.Same(e, d) != (bent == s) {
				t.Fatalf("Print of Parse of %q: %q, %d", bent, again, err)
			}
		}
	}
	if accepted < 100 {
		t.Error("only", accepted, "changed texts are accepted")
	}
}

// P15.4: beginnings of a printed form.
func TestBeginnings(t *testing.T) {
	s := text(twoLines()...)
	for i := 1; i < len(s); i++ {
		_, n, err := tiertext.Parse(s[:i])
		if s[i-1] != '\n' && (n != 0 || err != api.ErrForm) {
			t.Errorf("Parse of %q: %d, %d", s[:i], n, err)
		}
	}
}

// R5: arguments stay as they are, and what Parse returns is new memory.
func TestMemory(t *testing.T) {
	d := two()
	tiertext.Print(d)
	tiertext.Sum(d)
	if !tiers.Same(d, two()) {
		t.Error(d)
	}
	s := text(twoLines()...)
	e, _, _ := tiertext.Parse(s)
	clear(e.Notes)
	clear(e.Tiers)
	clear(e.Rec.Speakers)
	if e, _, _ := tiertext.Parse(s); !tiers.Same(e, two()) {
		t.Error(e)
	}
}
