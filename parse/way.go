package parse

import (
	"triad/api"
	"triad/row"
)

func (r *reader) way() api.Path {
	return r.several("|", api.PAlt, func() api.Path { return r.several("/", api.PSeq, r.turned) })
}

// several are kids with a sign between; one alone is itself.
func (r *reader) several(between string, op int, kid func() api.Path) api.Path {
	l := []api.Path{kid()}
	for r.Take(between) {
		l = append(l, kid())
	}
	if len(l) == 1 {
		return l[0]
	}
	return api.Path{Op: op, Kids: l}
}

// turned has what is behind a '^' with what that has behind it.
func (r *reader) turned() api.Path {
	if r.Take("^") {
		return of(api.PInv, r.often())
	}
	return r.often()
}

func (r *reader) often() api.Path {
	w := r.one()
	switch {
	case r.Take("*"):
		return of(api.PStar, w)
	case r.Take("+"):
		return of(api.PPlus, w)
	case r.Take("?"):
		return of(api.POpt, w)
	}
	return w
}

func (r *reader) one() api.Path {
	var t api.Term
	switch {
	case r.Peek() == row.Sign("("):
		r.open("(")
		w := r.way()
		r.shut(")")
		return w
	case r.Pass(row.Word("a")):
		t = row.Named(api.RType)
	default:
		t = r.checked(r.Iri())
	}
	return api.Path{Op: api.PIri, S: t.S}
}

func of(op int, w api.Path) api.Path { return api.Path{Op: op, Kids: []api.Path{w}} }

// copied is a way that shares no lists with it.
func copied(w api.Path) api.Path {
	var l []api.Path
	for _, k := range w.Kids {
		l = append(l, copied(k))
	}
	w.Kids = l
	return w
}
