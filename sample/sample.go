// Package sample makes notes, documents, queries and replicas for the tests of the layers.
package sample

import (
	"cmp"
	"slices"

	"langdoc/api"
)

// The indices of the tiers of a sample, which are of all kinds and roles.
const (
	Text  = iota // a root tier
	Part         // divides Text
	Word         // within Text
	Morph        // a series below Word
	Gloss        // a label of Morph
	Free         // a label of Text
	Sub          // divides Part
	Inner        // within Sub
	Deep         // a series below Gloss
	Other        // a second root tier
	Bit          // divides Word
)

// length is so small that there are never too many notes.
const length = 12

// Tiers returns the tiers of a sample.
func Tiers() []api.Tier {
	return []api.Tier{
		Text:  {Name: "text", Kind: api.TierRoot, Role: api.RoleText, Parent: -1},
		Part:  {Name: "part", Kind: api.TierParts, Parent: Text},
		Word:  {Name: "word", Kind: api.TierWithin, Role: api.RoleWord, Parent: Text},
		Morph: {Name: "morph", Kind: api.TierSeries, Role: api.RoleMorph, Parent: Word},
		Gloss: {Name: "gloss", Kind: api.TierLabel, Role: api.RoleGloss, Parent: Morph},
		Free:  {Name: "free", Kind: api.TierLabel, Role: api.RoleFree, Parent: Text},
		Sub:   {Name: "sub", Kind: api.TierParts, Parent: Part},
		Inner: {Name: "inner", Kind: api.TierWithin, Parent: Sub},
		Deep:  {Name: "deep", Kind: api.TierSeries, Parent: Gloss},
		Other: {Name: "other", Kind: api.TierRoot, Parent: -1},
		Bit:   {Name: "bit", Kind: api.TierParts, Parent: Word},
	}
}

// Of returns a document of 12 milliseconds with these tiers and notes.
func Of(notes ...api.Note) api.Doc {
	return api.Doc{Rec: api.Recording{Id: 3, Name: "tape", Length: length, Day: 5, Speakers: []int{1, 4}}, Tiers: Tiers(), Notes: notes}
}

// Timed returns a note with a span, and Plain one without.
func Timed(id, tier, parent, from, to int, text string) api.Note {
	return api.Note{Id: id, Tier: tier, Parent: parent, Span: api.Span{From: from, To: to}, Text: text}
}

func Plain(id, tier, parent, rank int, text string) api.Note {
	return api.Note{Id: id, Tier: tier, Parent: parent, Rank: rank, Text: text}
}

// Doc returns a right document, which can be printed, and whose notes have Ids from 1 to 2000 in no order. All its choices are made by pick, which returns a number from 0 to n - 1.
func Doc(pick func(n int) int) api.Doc {
	d := Of()
	used := map[int]bool{}
	for tier, t := range d.Tiers {
		parents := []api.Note{{Span: api.Span{To: length}}}
		if t.Kind != api.TierRoot {
			parents = slices.DeleteFunc(slices.Clone(d.Notes), func(n api.Note) bool { return n.Tier != t.Parent })
		}
		for _, parent := range parents {
			for rank, s := range spans(pick, t.Kind, parent.Span) {
				n := api.Note{Id: 1 + pick(2000), Tier: tier, Parent: parent.Id, Span: s, Text: text(pick)}
				if t.Kind == api.TierSeries {
					n.Rank = rank
				}
				for used[n.Id] {
					n.Id = n.Id%2000 + 1
				}
				used[n.Id] = true
				d.Notes = append(d.Notes, n)
			}
		}
	}
	slices.SortFunc(d.Notes, func(a, b api.Note) int { return cmp.Compare(a.Id, b.Id) })
	return d
}

// spans returns the spans of the notes that a parent with the span s has in a tier.
func spans(pick func(n int) int, kind int, s api.Span) []api.Span {
	switch {
	case kind == api.TierSeries:
		return make([]api.Span, pick(4))
	case kind == api.TierLabel:
		return make([]api.Span, pick(2))
	case pick(4) == 0:
		return nil
	}
	var l []api.Span
	for at := s.From; at < s.To; {
		to := min(at+1+pick(5), s.To)
		if kind == api.TierParts || pick(4) > 0 {
			l = append(l, api.Span{From: at, To: to})
		}
		at = to
	}
	return l
}

func text(pick func(n int) int) string {
	return []string{"", "ba", "mi", "ba mi", "\u00e9%"}[pick(5)]
}
