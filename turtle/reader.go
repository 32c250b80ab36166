package turtle

import (
	"strconv"

	"triad/api"
	"triad/term"
)

// prefix is the reference that a prefix stands for.
type prefix struct{ ref string }

// reader is a document on its way.
//
// Of its errors the first one stays: behind it no token is left, so that whoever reads on comes to an end, and nothing
// is told any more.
type reader struct {
	rest     []api.Token
	base     string
	prefixes map[string]prefix // by their names, with the ':'
	fresh    func() api.Term   // a new blank
	deep     int
	told     []api.Triple
	e        api.Errno
}

// numbered makes blanks, of which each has the next number.
func numbered(label string) func() api.Term {
	n := 0
	return func() api.Term {
		n++
		return api.Term{Kind: api.Blank, S: label + strconv.Itoa(n)}
	}
}

func (r *reader) fail(e api.Errno) {
	if r.e == api.OK {
		r.rest, r.told, r.e = nil, nil, e
	}
}

// tell puts a triple to those that are told. That it is one too many goes ahead of what it has wrong.
func (r *reader) tell(s, p, o api.Term) {
	if len(r.told) == api.MaxGraph {
		r.fail(api.ErrMany)
	}
	t := api.Triple{s, p, o}
	e := term.Fits(t)
	if e != api.OK {
		r.fail(e)
	}
	if r.e == api.OK {
		r.told = append(r.told, t)
	}
}

// peek is the next token; of no kind, which fits nowhere, if there is none.
func (r *reader) peek() api.Token {
	if len(r.rest) == 0 {
		return api.Token{}
	}
	return r.rest[0]
}

// next is peek, and goes past it.
func (r *reader) next() api.Token {
	t := r.peek()
	if len(r.rest) > 0 {
		r.rest = r.rest[1:]
	}
	return t
}

// take goes past a sign, if it is the next token.
func (r *reader) take(s string) bool {
	there := r.peek() == sign(s)
	if there {
		r.next()
	}
	return there
}

// need goes past a sign that must stand here.
func (r *reader) need(s string) {
	if !r.take(s) {
		r.fail(api.ErrWord)
	}
}

// deeper is what is read between a '[' or '(' and its end.
func (r *reader) deeper(read func() api.Term) api.Term {
	r.deep++
	if r.deep > api.MaxDeep {
		r.fail(api.ErrDeep)
	}
	t := read()
	r.deep--
	return t
}

func lang(s string) api.Token { return api.Token{Kind: api.TLang, S: s} }

func word(s string) api.Token { return api.Token{Kind: api.TWord, S: s} }

func sign(s string) api.Token { return api.Token{Kind: api.TSign, S: s} }
