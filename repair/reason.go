package repair

import (
	"slices"

	"langdoc/api"
	"langdoc/span"
	"langdoc/tiers"
	"langdoc/tiertype"
)

// reason is a reason why a note may be loose.
type reason interface {
	// why returns its error if a note has no place in a document for this reason, and OK otherwise.
	why(d api.Doc, n api.Note) api.Errno
}

type (
	noTier    struct{} // there is no such tier
	derived   struct{} // the notes of its tier are derived
	full      struct{} // there are too many notes
	noParent  struct{} // its parent is not placed
	unwritten struct{} // its text is none
	untimed   struct{} // its span is not right, or not within that of its parent
	overlaps  struct{} // it overlaps one of its siblings
	second    struct{} // its parent has a label already
)

// reasons returns all reasons; each of them relies on it that those before it do not hold.
func reasons() []reason {
	return []reason{noTier{}, derived{}, full{}, noParent{}, unwritten{}, untimed{}, overlaps{}, second{}}
}

func (noTier) why(d api.Doc, n api.Note) api.Errno {
	return errorIf(n.Tier < 0 || n.Tier >= len(d.Tiers), api.ErrRange)
}

func (derived) why(d api.Doc, n api.Note) api.Errno {
	t := d.Tiers[n.Tier]
	return errorIf(t.Kind == api.TierParts || t.Role == api.RoleMorph || t.Role == api.RoleGloss, api.ErrKind)
}

func (full) why(d api.Doc, n api.Note) api.Errno {
	return errorIf(len(d.Notes) >= api.MaxNotes, api.ErrFull)
}

func (noParent) why(d api.Doc, n api.Note) api.Errno {
	t := d.Tiers[n.Tier]
	if t.Kind == api.TierRoot {
		return errorIf(n.Parent != noNote, api.ErrParent)
	}
	parent, placed := tiers.Get(d, n.Parent)
	return errorIf(!placed || parent.Tier != t.Parent, api.ErrParent)
}

func (unwritten) why(d api.Doc, n api.Note) api.Errno {
	return tiers.Text(n.Text)
}

func (untimed) why(d api.Doc, n api.Note) api.Errno {
	if !tiertype.Aligned(d.Tiers, n.Tier) {
		return api.OK
	}
	room := api.Span{To: d.Rec.Length}
	if d.Tiers[n.Tier].Kind != api.TierRoot {
		parent, _ := tiers.Get(d, n.Parent)
		room = parent.Span
	}
	return errorIf(!span.Right(n.Span) || n.Span.From < room.From || n.Span.To > room.To, api.ErrTime)
}

func (overlaps) why(d api.Doc, n api.Note) api.Errno {
	overlap := slices.ContainsFunc(d.Notes, func(m api.Note) bool {
		return areSiblings(m, n) && m.Span.From < n.Span.To && n.Span.From < m.Span.To
	})
	return errorIf(overlap && tiertype.Aligned(d.Tiers, n.Tier), api.ErrOverlap)
}

func (second) why(d api.Doc, n api.Note) api.Errno {
	sibling := slices.ContainsFunc(d.Notes, func(m api.Note) bool { return areSiblings(m, n) })
	return errorIf(sibling && d.Tiers[n.Tier].Kind == api.TierLabel, api.ErrTwice)
}

func errorIf(holds bool, err api.Errno) api.Errno {
	if !holds {
		return api.OK
	}
	return err
}
