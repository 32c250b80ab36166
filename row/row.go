// Package row: tokens, gone through from the left, and the terms that texts of triples and questions have alike.
//
// It is no layer: what chapter 14 has as chapter 12 has it stands here once, for turtle and parse.
package row

import (
	"triad/api"
	"triad/lex"
)

// Row is what is left of a text's tokens.
//
// Of its faults the first one stays: behind it no token is left, so that whoever reads on comes to an end.
type Row struct {
	rest     []api.Token
	prefixes map[string]prefix // by their names, with the ':'
	resolve  func(ref string) string
	fault    api.Errno
}

// New is a text's, whose references are what resolve makes of them.
func New(s string, resolve func(ref string) string) *Row {
	l, e := lex.Tokens(s)
	return &Row{rest: l, prefixes: map[string]prefix{}, resolve: resolve, fault: e}
}

func (r *Row) Fail(e api.Errno) {
	if r.fault == api.OK {
		r.rest, r.fault = nil, e
	}
}

func (r *Row) Fault() api.Errno { return r.fault }

// More is whether any token is left.
func (r *Row) More() bool { return len(r.rest) > 0 }

// Peek is the next token; of no kind, which fits nowhere, if there is none.
func (r *Row) Peek() api.Token {
	if !r.More() {
		return api.Token{}
	}
	return r.rest[0]
}

// Next is Peek, and goes past it.
func (r *Row) Next() api.Token {
	t := r.Peek()
	if r.More() {
		r.rest = r.rest[1:]
	}
	return t
}

// Pass goes past a token, if it is the next one.
func (r *Row) Pass(t api.Token) bool {
	there := r.Peek() == t
	if there {
		r.Next()
	}
	return there
}

// Take is Pass of a sign.
func (r *Row) Take(s string) bool { return r.Pass(Sign(s)) }

// Need goes past a sign that must stand here.
func (r *Row) Need(s string) {
	if !r.Take(s) {
		r.Fail(api.ErrWord)
	}
}

func Word(s string) api.Token { return api.Token{Kind: api.TWord, S: s} }

func Sign(s string) api.Token { return api.Token{Kind: api.TSign, S: s} }
