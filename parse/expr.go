package parse

import (
	"triad/api"
	"triad/row"
)

// The levels of operators: each one binds more than those ahead of it.
const (
	ors = iota
	ands
	compared // of which no two stand beside each other
	sums
	products
	singles
)

// operator stands between two.
type operator struct {
	sign      string
	level, op int
}

var operators = [...]operator{
	{"||", ors, api.EOr},
	{"&&", ands, api.EAnd},
	{"=", compared, api.EEq}, {"!=", compared, api.ENe}, {"<", compared, api.ELt},
	{"<=", compared, api.ELe}, {">", compared, api.EGt}, {">=", compared, api.EGe},
	{"+", sums, api.EAdd}, {"-", sums, api.ESub},
	{"*", products, api.EMul},
}

// oneOrMore is the count of a call that has no other.
const oneOrMore = 0

// call is of so many.
type call struct {
	word      string
	op, count int
}

var calls = [...]call{
	{"BOUND", api.EBound, 1},
	{"STR", api.EStr, 1}, {"LANG", api.ELang, 1}, {"DATATYPE", api.EType, 1}, {"STRLEN", api.ELen, 1},
	{"ISIRI", api.EIsIri, 1}, {"ISBLANK", api.EIsBlank, 1}, {"ISLITERAL", api.EIsLit, 1},
	{"CONTAINS", api.EHas, 2}, {"SAMETERM", api.ESame, 2},
	{"IF", api.EIf, 3},
	{"COALESCE", api.ECoal, oneOrMore},
}

// expr is one of the operators of a level, from the left on, and of those that bind more.
func (r *reader) expr(level int) api.Expr {
	if level == singles {
		return r.signed()
	}
	x := r.expr(level + 1)
	for {
		op := r.between(level)
		if op == 0 {
			return x
		}
		x = api.Expr{Op: op, Kids: []api.Expr{x, r.expr(level + 1)}}
		if level == compared {
			return x
		}
	}
}

// between goes past an operator of a level; 0: none stands here.
func (r *reader) between(level int) int {
	for _, o := range operators {
		if o.level == level && r.Take(o.sign) {
			return o.op
		}
	}
	return 0
}

func (r *reader) signed() api.Expr {
	switch {
	case r.Take("!"):
		return api.Expr{Op: api.ENot, Kids: []api.Expr{r.single()}}
	case r.Take("-"):
		return api.Expr{Op: api.ENeg, Kids: []api.Expr{r.single()}}
	}
	return r.single()
}

func (r *reader) single() api.Expr {
	switch {
	case r.Peek() == row.Sign("("):
		r.open("(")
		x := r.expr(ors)
		r.shut(")")
		return x
	case r.Peek().Kind == api.TVar:
		return r.bound()
	}
	for _, c := range calls {
		if r.word(c.word) {
			return api.Expr{Op: c.op, Kids: r.kids(c)}
		}
	}
	return api.Expr{Op: api.ETerm, T: r.known(r.Unsigned)}
}

// kids are a call's. A ',' behind the last one that may be does not fit, nor does a ')' ahead of the last one that must.
func (r *reader) kids(c call) []api.Expr {
	kid := func() api.Expr { return r.expr(ors) }
	if c.op == api.EBound {
		kid = r.bound
	}
	var l []api.Expr
	r.open("(")
	for more := true; more; more = (c.count == oneOrMore || len(l) < c.count) && r.Take(",") {
		l = append(l, kid())
	}
	if len(l) < c.count {
		r.Fail(api.ErrWord)
	}
	r.shut(")")
	return l
}

// bound is a variable that must stand here.
func (r *reader) bound() api.Expr { return api.Expr{Op: api.ETerm, T: named(r.variable())} }
