package row

import (
	"strings"

	"triad/api"
)

// prefix is the reference that a prefix stands for.
type prefix struct{ ref string }

// Prefix goes past one, and the reference that it stands for from here on.
func (r *Row) Prefix() {
	t := r.Next()
	if t.Kind != api.TName || !strings.HasSuffix(t.S, ":") {
		r.Fail(api.ErrWord)
	}
	r.prefixes[t.S] = prefix{r.Resolved()}
}

// Resolved is the reference that must stand here, and not as a name.
func (r *Row) Resolved() string {
	t := r.Next()
	if t.Kind != api.TIri {
		r.Fail(api.ErrWord)
	}
	return r.resolve(t.S)
}

// Iri is the IRI that must stand here, whatever its reference.
func (r *Row) Iri() api.Term { return Named(r.reference()) }

func (r *Row) reference() string {
	if r.Peek().Kind == api.TIri {
		return r.Resolved()
	}
	t := r.Next()
	if t.Kind != api.TName {
		r.Fail(api.ErrWord)
	}
	local := strings.Index(t.S, ":") + 1
	p, there := r.prefixes[t.S[:local]]
	if !there {
		r.Fail(api.ErrName)
	}
	return p.ref + t.S[local:]
}

// Literal is the literal that stands here, whatever its parts; false: none begins here.
func (r *Row) Literal() (api.Term, bool) {
	switch {
	case r.Take("-"):
		return r.number("-"), true
	case r.Take("+"):
		return r.number(""), true
	}
	return r.Unsigned()
}

// Unsigned is Literal, but of one that has no sign of its own ahead.
func (r *Row) Unsigned() (api.Term, bool) {
	t := r.Peek()
	switch {
	case t.Kind == api.TNum:
		return r.number(""), true
	case t.Kind == api.TText:
		return r.tagged(r.Next().S), true
	case t == Word("true"), t == Word("false"):
		return typed(r.Next().S, api.XBool), true
	}
	return api.Term{}, false
}

func (r *Row) number(minus string) api.Term {
	t := r.Next()
	if t.Kind != api.TNum {
		r.Fail(api.ErrWord)
	}
	if strings.Contains(t.S, ".") {
		return typed(minus+t.S, api.XDec)
	}
	return typed(minus+t.S, api.XInt)
}

// tagged is a text's literal, with the language or the type that is behind it.
func (r *Row) tagged(s string) api.Term {
	switch {
	case r.Peek().Kind == api.TLang:
		return api.Term{Kind: api.Literal, S: s, Lang: r.Next().S}
	case r.Take("^^"):
		return typed(s, r.reference())
	}
	return typed(s, "")
}

func Named(ref string) api.Term { return api.Term{Kind: api.Iri, S: ref} }

func typed(s, ref string) api.Term { return api.Term{Kind: api.Literal, S: s, Type: ref} }
