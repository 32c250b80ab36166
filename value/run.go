package value

import (
	"math/bits"

	"triad/api"
	"triad/sol"
)

// run is an Eval on its way.
type run struct {
	s   api.Sol
	way []wait   // each one behind that of which it is a Kid
	t   api.Term // what was told last; nothing of an error
	ok  bool
}

// wait is an expression that waits for one more of its Kids behind so many; and what the first of these told.
type wait struct {
	e     *api.Expr
	kids  int
	first api.Term
}

func (r *run) tell(t api.Term, ok bool) {
	if !ok {
		t = api.Term{}
	}
	r.t, r.ok = t, ok
}

// enter tells what an expression is, or has it wait, if its first Kid must be told ahead of that: true.
func (r *run) enter(e *api.Expr) bool {
	switch {
	case r.endless(e):
		r.way = nil
		fallthrough
	case !fits(e.Op, len(e.Kids)):
		r.tell(api.Term{}, false)
	case e.Op == api.ETerm && e.T.Kind == api.Var:
		r.tell(sol.Get(r.s, e.T.S))
	case e.Op == api.ETerm:
		r.tell(e.T, true)
	case e.Op == api.EBound:
		r.tell(bound(e.Kids[0], r.s))
	default:
		r.way = append(r.way, wait{e: e})
		return true
	}
	return false
}

// endless tells whether an expression stands within itself (a list of Kids may): all that it stands in is an error then.
//
// It is held against one of those that wait, which is at a depth that doubles: on a way without end it comes by again.
func (r *run) endless(e *api.Expr) bool {
	n := len(r.way)
	return n > 0 && r.way[1<<(bits.Len(uint(n))-1)-1].e == e
}

// leave hands what was told to the expression that waits for it, and answers which of its Kids must be told next. If
// none must be, it waits no more, and it is what was told last.
func (r *run) leave() *api.Expr {
	last := len(r.way) - 1
	w := &r.way[last]
	w.kids++
	kid := r.next(w)
	if kid == 0 {
		r.way = r.way[:last]
		return nil
	}
	return &w.e.Kids[kid]
}

// next tells which Kid must be told next; 0: none, as the expression is told.
func (r *run) next(w *wait) int {
	op, most := w.e.Op, len(w.e.Kids)
	switch {
	case op == api.ECoal:
		if !r.ok && w.kids < most {
			return w.kids
		}
	case op == api.EIf:
		if w.kids == 1 {
			return r.choose()
		}
	case !r.ok && op != api.EOr && op != api.EAnd: // stays
	case most == 1:
		r.tell(one(op, r.t))
	case w.kids == 1:
		w.first = r.t
		return 1
	default:
		r.tell(two(op, w.first, r.t))
	}
	return 0
}

// choose is next of an EIf whose first Kid was told.
func (r *run) choose() int {
	is, ok := Truth(r.t)
	switch {
	case !ok:
		r.tell(api.Term{}, false)
		return 0
	case is:
		return 1
	}
	return 2
}
