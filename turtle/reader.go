package turtle

import (
	"strconv"

	"triad/api"
	"triad/row"
	"triad/term"
)

// reader is a document on its way. Behind its row's first fault nothing is told any more.
type reader struct {
	*row.Row
	base  string
	fresh func() api.Term // a new blank
	deep  int
	told  []api.Triple
}

// numbered makes blanks, of which each has the next number.
func numbered(label string) func() api.Term {
	n := 0
	return func() api.Term {
		n++
		return api.Term{Kind: api.Blank, S: label + strconv.Itoa(n)}
	}
}

// tell puts a triple to those that are told. That it is one too many goes ahead of what it has wrong.
func (r *reader) tell(s, p, o api.Term) {
	if len(r.told) == api.MaxGraph {
		r.Fail(api.ErrMany)
	}
	t := api.Triple{s, p, o}
	e := term.Fits(t)
	if e != api.OK {
		r.Fail(e)
	}
	if r.Fault() == api.OK {
		r.told = append(r.told, t)
	}
}

// deeper is what is read between a '[' or '(' and its end.
func (r *reader) deeper(read func() api.Term) api.Term {
	r.deep++
	if r.deep > api.MaxDeep {
		r.Fail(api.ErrDeep)
	}
	t := read()
	r.deep--
	return t
}

func lang(s string) api.Token { return api.Token{Kind: api.TLang, S: s} }
