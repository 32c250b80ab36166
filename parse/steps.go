package parse

import (
	"triad/api"
	"triad/row"
)

// may is what may stand in steps, beside what may in all of them.
type may int

const (
	vars may = 1 << iota
	blanks
	ways
)

// block is steps or none, in brackets that do not count.
func (r *reader) block(m may) []api.Step {
	var l []api.Step
	r.Need("{")
	if r.Peek() != row.Sign("}") {
		l = r.steps(m)
	}
	r.Need("}")
	return l
}

func (r *reader) steps(m may) []api.Step {
	var l []api.Step
	for more := true; more; more = r.Take(".") && r.begins() {
		l = r.verbs(l, r.node(m), m)
	}
	return l
}

// begins is whether a node begins here, be it one that may not stand here.
func (r *reader) begins() bool {
	t := r.Peek()
	switch t.Kind {
	case api.TVar, api.TIri, api.TName, api.TBlank, api.TText, api.TNum:
		return true
	}
	return t == row.Sign("+") || t == row.Sign("-") || t == row.Word("true") || t == row.Word("false")
}

// verbs puts a subject's steps to others.
func (r *reader) verbs(l []api.Step, s api.Term, m may) []api.Step {
	for more := true; more; more = r.Take(";") && r.leads() {
		step := r.verb(s, m)
		for more := true; more; more = r.Take(",") {
			l = append(l, step(r.node(m)))
		}
	}
	return l
}

// leads is whether a verb begins here.
func (r *reader) leads() bool {
	t := r.Peek()
	switch t.Kind {
	case api.TVar, api.TIri, api.TName:
		return true
	}
	return t == row.Word("a") || t == row.Sign("^") || t == row.Sign("(")
}

// verb makes the subject's step to an object. Each step has a way of its own, as lists of an answer share nothing.
func (r *reader) verb(s api.Term, m may) func(o api.Term) api.Step {
	if r.Peek().Kind == api.TVar {
		p := r.free(m)
		return func(o api.Term) api.Step { return api.Step{S: s, P: p, O: o} }
	}
	w := r.way()
	if w.Op == api.PIri {
		return func(o api.Term) api.Step { return api.Step{S: s, P: row.Named(w.S), O: o} }
	}
	if m&ways == 0 {
		r.Fail(api.ErrMiss)
	}
	return func(o api.Term) api.Step { return api.Step{S: s, Way: copied(w), O: o} }
}

func (r *reader) node(m may) api.Term {
	switch r.Peek().Kind {
	case api.TVar:
		return r.free(m)
	case api.TBlank:
		if m&blanks == 0 {
			r.Fail(api.ErrMiss)
		}
		return r.checked(api.Term{Kind: api.Blank, S: r.Next().S})
	}
	return r.known(r.Literal)
}

// free is the variable that stands here. That its name is too long goes ahead of that it may not.
func (r *reader) free(m may) api.Term {
	t := named(r.variable())
	if m&vars == 0 {
		r.Fail(api.ErrScope)
	}
	return t
}
