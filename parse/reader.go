package parse

import (
	"strings"

	"triad/api"
	"triad/row"
	"triad/term"
)

// longest is how many bytes a variable's name may have.
const longest = 12

// reader is a question or a change on its way.
type reader struct {
	*row.Row
	deep int // how many of the brackets that count are open
}

// begin is a text's, behind its prefixes.
func begin(s string) *reader {
	r := &reader{Row: row.New(s, func(ref string) string { return ref })}
	for r.word("PREFIX") {
		r.Prefix()
	}
	return r
}

// word goes past a word in letters of either case, if it is the next token.
func (r *reader) word(s string) bool {
	t := r.Peek()
	return t.Kind == api.TWord && strings.EqualFold(t.S, s) && r.Pass(t)
}

// must goes past such a word that must stand here.
func (r *reader) must(s string) {
	if !r.word(s) {
		r.Fail(api.ErrWord)
	}
}

// open goes past a bracket that counts, shut past its end.
func (r *reader) open(s string) {
	r.Need(s)
	r.deep++
	if r.deep > api.MaxDeep {
		r.Fail(api.ErrDeep)
	}
}

func (r *reader) shut(s string) {
	r.Need(s)
	r.deep--
}

// variable is the name of the one that must stand here.
func (r *reader) variable() string {
	t := r.Next()
	if t.Kind != api.TVar {
		r.Fail(api.ErrWord)
	}
	if len(t.S) > longest {
		r.Fail(api.ErrLong)
	}
	return t.S
}

// known is an IRI, or a literal as it may stand here.
func (r *reader) known(literal func() (api.Term, bool)) api.Term {
	t, is := literal()
	if !is {
		t = r.Iri()
	}
	return r.checked(t)
}

func (r *reader) checked(t api.Term) api.Term {
	e := term.Check(t)
	if e != api.OK {
		r.Fail(e)
	}
	return t
}

func named(variable string) api.Term { return api.Term{Kind: api.Var, S: variable} }
