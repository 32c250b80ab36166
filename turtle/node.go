package turtle

import (
	"strings"

	"triad/api"
	"triad/iri"
)

// reference is what an IRI's token tells.
func (r *reader) reference(t api.Token) string {
	switch t.Kind {
	case api.TIri:
		return iri.Resolve(r.base, t.S)
	case api.TName:
		local := strings.Index(t.S, ":") + 1
		p, there := r.prefixes[t.S[:local]]
		if !there {
			r.fail(api.ErrName)
		}
		return p.ref + t.S[local:]
	}
	r.fail(api.ErrWord)
	return ""
}

// node is what a subject and an object may be, of which this is the first token.
func (r *reader) node(t api.Token) api.Term {
	switch {
	case t.Kind == api.TBlank:
		return api.Term{Kind: api.Blank, S: t.S}
	case t == sign("("):
		return r.deeper(r.collection)
	}
	return named(r.reference(t))
}

// object is what an object alone may be, or a node.
func (r *reader) object() api.Term {
	minus := ""
	t := r.next()
	switch {
	case t == sign("["):
		return r.deeper(r.bracket)
	case t.Kind == api.TText:
		return r.literal(t.S)
	case t == word("true"), t == word("false"):
		return typed(t.S, api.XBool)
	case t.Kind == api.TNum:
		goto number
	case t == sign("-"):
		minus = t.S
		fallthrough
	case t == sign("+"):
		t = r.next()
		goto number
	}
	return r.node(t)
number:
	if t.Kind != api.TNum {
		r.fail(api.ErrWord)
	}
	if strings.Contains(t.S, ".") {
		return typed(minus+t.S, api.XDec)
	}
	return typed(minus+t.S, api.XInt)
}

// literal is a text's, with the language or the type that is behind it.
func (r *reader) literal(s string) api.Term {
	switch {
	case r.peek().Kind == api.TLang:
		return api.Term{Kind: api.Literal, S: s, Lang: r.next().S}
	case r.take("^^"):
		return typed(s, r.reference(r.next()))
	}
	return typed(s, "")
}

// bracket is a new blank, behind its '['. Its number is taken ahead of those of all that it holds.
func (r *reader) bracket() api.Term {
	s := r.fresh()
	if !r.take("]") {
		r.verbs(s)
		r.need("]")
	}
	return s
}

// collection is its first blank, behind its '('; RNil, if there is none.
//
// What is done with the next blank, or with RNil at the end, hangs on what is ahead of it: it is the answer, or the last
// blank's RRest.
func (r *reader) collection() api.Term {
	var first api.Term
	link := func(next api.Term) { first = next }
	for r.e == api.OK && !r.take(")") {
		o := r.object()
		blank := r.fresh()
		link(blank)
		r.tell(blank, named(api.RFirst), o)
		link = func(next api.Term) { r.tell(blank, named(api.RRest), next) }
	}
	link(named(api.RNil))
	return first
}

func named(ref string) api.Term { return api.Term{Kind: api.Iri, S: ref} }

func typed(s, ref string) api.Term { return api.Term{Kind: api.Literal, S: s, Type: ref} }
