package sample

import (
	"slices"

	"langdoc/api"
	"langdoc/clock"
	"langdoc/replica"
)

// Stamp returns a stamp.
func Stamp(count, dev int) api.Stamp { return api.Stamp{Count: count, Dev: dev} }

// Add returns an operation that adds a note, whose Id becomes that of the stamp; Set and Drop return those that change and delete one.
func Add(at api.Stamp, rec int, n api.Note) api.Op {
	n.Id = clock.Id(at)
	return api.Op{At: at, Kind: api.DoAdd, Rec: rec, Note: n}
}

func Set(at api.Stamp, rec, note, field, n int, text string, over ...api.Stamp) api.Op {
	return api.Op{At: at, Kind: api.DoSet, Rec: rec, Note: api.Note{Id: note}, Set: field, N: n, Text: text, Over: over}
}

func Drop(at api.Stamp, rec, note int, over ...api.Stamp) api.Op {
	return api.Op{At: at, Kind: api.DoDrop, Rec: rec, Note: api.Note{Id: note}, Over: over}
}

// Replica returns the replica of a device with these operations.
func Replica(dev int, l ...api.Op) api.Replica {
	r := api.Replica{Dev: dev, Seen: clock.Join(nil, nil), Ops: l}
	for _, o := range l {
		r.Seen = clock.See(r.Seen, o.At)
	}
	return r
}

// Change returns a right replica with a further operation on notes of the recording of Of, and sometimes of another one; the replica itself, if the operation is refused. All its choices are made by pick.
func Change(pick func(n int) int, r api.Replica) api.Replica {
	var next api.Replica
	var err api.Errno
	note := 0
	if len(r.Ops) > 0 {
		note = r.Ops[pick(len(r.Ops))].Note.Id
	}
	switch pick(7) {
	case 0:
		next, err = replica.Drop(r, note)
	case 1:
		next, err = replica.Set(r, note, api.FieldText, 0, text(pick))
	case 2:
		next, err = replica.Set(r, note, api.FieldFrom+pick(2), pick(length+2), "")
	default:
		next, _, err = replica.Add(r, Of().Rec.Id+max(0, pick(9)-7), newNote(pick, r))
	}
	if err != api.OK {
		return r
	}
	return next
}

// newNote returns a note for which there often is a parent in a replica.
func newNote(pick func(n int) int, r api.Replica) api.Note {
	tier := pick(len(Tiers()))
	n := api.Note{Tier: tier, Rank: pick(3), Text: text(pick)}
	n.Span.From = pick(length)
	n.Span.To = n.Span.From + 1 + pick(6)
	parents := slices.DeleteFunc(slices.Clone(r.Ops), func(o api.Op) bool {
		return o.Kind != api.DoAdd || o.Note.Tier != Tiers()[tier].Parent
	})
	if len(parents) > 0 && pick(9) > 0 {
		n.Parent = parents[pick(len(parents))].Note.Id
	}
	return n
}
