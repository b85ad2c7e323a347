package sample

import "langdoc/api"

// Find, Not and Two return queries with an operator that has no, one and two Kids.
func Find(role int, p string) api.Query { return api.Query{Op: api.OpText, Role: role, Text: p} }

func Not(role int, q api.Query) api.Query {
	return api.Query{Op: api.OpNot, Role: role, Kids: []api.Query{q}}
}

func Two(op int, a, b api.Query) api.Query { return api.Query{Op: op, Kids: []api.Query{a, b}} }

// Query returns a right query of a few levels, which mostly finds notes of one role. All its choices are made by pick.
func Query(pick func(n int) int, levels, role int) api.Query {
	other := 1 + pick(5)
	if levels == 1 {
		return Find(role, []string{"*", "*", "ba", "b*", "*i", "??", "\u00e9%"}[pick(7)])
	}
	switch op := pick(7); op {
	case api.OpText:
		return Query(pick, 1, role)
	case api.OpNot:
		return Not(role, Query(pick, levels-1, other))
	case api.OpAnd, api.OpThen:
		other = role
		fallthrough
	default:
		return Two(op, Query(pick, levels-1, role), Query(pick, levels-1, other))
	}
}
