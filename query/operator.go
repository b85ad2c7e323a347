package query

import "langdoc/api"

// operator is what a node does: finding, negation or connection.
type operator interface {
	// kids returns how many Kids its nodes have.
	kids() int
}

// finding is OpText: its nodes have a role and a pattern.
type finding struct{}

// negation is OpNot: its nodes have a role and a Kid.
type negation struct{}

// connection is one of the operators with two Kids, by its name.
type connection struct{ name string }

func (finding) kids() int    { return 0 }
func (negation) kids() int   { return 1 }
func (connection) kids() int { return 2 }

// roles are the names of the roles from RoleText on.
var roles = [...]string{"text", "word", "morph", "gloss", "free"}

// operatorOf returns the operator with this number, or nil.
func operatorOf(op int) operator {
	switch op {
	case api.OpText:
		return finding{}
	case api.OpAnd:
		return connection{"and"}
	case api.OpOr:
		return connection{"or"}
	case api.OpNot:
		return negation{}
	case api.OpThen:
		return connection{"then"}
	case api.OpWithin:
		return connection{"within"}
	case api.OpHas:
		return connection{"has"}
	}
	return nil
}

// hasRole reports whether the nodes of an operator may have this role.
func hasRole(o operator, role int) bool {
	switch o.(type) {
	case finding, negation:
		return role >= api.RoleText && role <= api.RoleFree
	default:
		return role == api.RoleNone
	}
}

// head returns how the text of a node of an operator begins, up to its pattern or its first Kid.
func head(o operator, role int) string {
	switch o := o.(type) {
	case finding:
		return roles[role-api.RoleText] + ":"
	case negation:
		return "(not " + roles[role-api.RoleText] + " "
	case connection:
		return "(" + o.name + " "
	}
	return ""
}
