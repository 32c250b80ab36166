package turtle

import (
	"triad/api"
	"triad/row"
)

// node is what a subject and an object may be.
func (r *reader) node() api.Term {
	switch {
	case r.Peek().Kind == api.TBlank:
		return api.Term{Kind: api.Blank, S: r.Next().S}
	case r.Take("("):
		return r.deeper(r.collection)
	}
	return r.Iri()
}

// object is what an object alone may be, or a node.
func (r *reader) object() api.Term {
	if r.Take("[") {
		return r.deeper(r.bracket)
	}
	t, is := r.Literal()
	if is {
		return t
	}
	return r.node()
}

// bracket is a new blank, behind its '['. Its number is taken ahead of those of all that it holds.
func (r *reader) bracket() api.Term {
	s := r.fresh()
	if !r.Take("]") {
		r.verbs(s)
		r.Need("]")
	}
	return s
}

// collection is its first blank, behind its '('; RNil, if there is none.
//
// What is done with the next blank, or with RNil at the end, hangs on what is ahead of it: it is the answer, or the last
// blank's RRest.
func (r *reader) collection() api.Term {
	var first api.Term
	link := func(next api.Term) { first = next }
	for r.Fault() == api.OK && !r.Take(")") {
		o := r.object()
		blank := r.fresh()
		link(blank)
		r.tell(blank, row.Named(api.RFirst), o)
		link = func(next api.Term) { r.tell(blank, row.Named(api.RRest), next) }
	}
	link(row.Named(api.RNil))
	return first
}
