package parse

import (
	"slices"

	"triad/api"
	"triad/row"
)

// group is what is there behind all that it joins, one behind the other, and then its filters.
func (r *reader) group() api.Pattern {
	there, some := api.Pattern{Op: api.GSteps}, false
	var filters []api.Expr
	put := func(op int, p api.Pattern) {
		if op == api.GJoin && !some {
			there = p
		} else {
			there = both(op, there, p)
		}
		some = true
	}
	r.open("{")
elements:
	for {
		switch {
		case r.begins():
			put(api.GJoin, api.Pattern{Op: api.GSteps, Steps: r.steps(vars | ways)})
			continue // a '.' behind them was theirs
		case r.Peek() == row.Sign("{"):
			put(api.GJoin, r.union())
		case r.word("VALUES"):
			put(api.GJoin, r.values())
		case r.word("OPTIONAL"):
			put(api.GLeft, r.group())
		case r.word("MINUS"):
			put(api.GMinus, r.group())
		case r.word("BIND"):
			there, some = r.bind(there), true
		case r.word("FILTER"):
			filters = append(filters, r.filter())
		default:
			break elements
		}
		r.Take(".")
	}
	r.shut("}")
	for _, x := range filters {
		there = api.Pattern{Op: api.GFilter, Kids: []api.Pattern{there}, E: x}
	}
	return there
}

func (r *reader) union() api.Pattern {
	p := r.group()
	for r.word("UNION") {
		p = both(api.GUnion, p, r.group())
	}
	return p
}

// values are a variable's, in brackets that do not count.
func (r *reader) values() api.Pattern {
	p := api.Pattern{Op: api.GValues, Name: r.variable()}
	r.Need("{")
	for r.Fault() == api.OK && !r.Take("}") {
		p.Terms = append(p.Terms, r.known(r.Literal))
	}
	return p
}

// bind and filter have brackets that do not count.
func (r *reader) bind(there api.Pattern) api.Pattern {
	r.Need("(")
	x := r.expr(ors)
	r.must("AS")
	name := r.variable()
	r.Need(")")
	if slices.Contains(Names(there), name) {
		r.Fail(api.ErrScope)
	}
	return api.Pattern{Op: api.GBind, Kids: []api.Pattern{there}, E: x, Name: name}
}

func (r *reader) filter() api.Expr {
	r.Need("(")
	x := r.expr(ors)
	r.Need(")")
	return x
}

func both(op int, a, b api.Pattern) api.Pattern {
	return api.Pattern{Op: op, Kids: []api.Pattern{a, b}}
}
