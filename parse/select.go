package parse

import (
	"slices"
	"strconv"
	"strings"

	"triad/api"
)

// digits is how many a LIMIT or OFFSET may have.
const digits = 6

// aggregate is what is told of several solutions.
type aggregate struct {
	word string
	op   int
}

var aggregates = [...]aggregate{{"COUNT", api.ACount}, {"SUM", api.ASum}, {"MIN", api.AMin}, {"MAX", api.AMax}, {"AVG", api.AAvg}}

// selection is what stands behind SELECT.
func (r *reader) selection(q *api.Query) {
	q.Distinct = r.word("DISTINCT")
	if !r.Take("*") {
		r.told(q)
	}
	r.word("WHERE")
	q.Where = r.group()
	if r.word("GROUP") {
		r.must("BY")
		q.Group = r.variables()
	}
	if r.word("ORDER") {
		r.must("BY")
		q.Order = r.keys()
	}
	if r.word("LIMIT") {
		q.Limit = r.count()
	}
	if r.word("OFFSET") {
		q.Offset = r.count()
	}
}

// told is one or more variables and aggregates.
func (r *reader) told(q *api.Query) {
	for {
		switch {
		case r.Peek().Kind == api.TVar:
			q.Names = append(q.Names, r.variable())
		case r.Take("("):
			q.Aggs = append(q.Aggs, r.aggregate())
			r.Need(")")
		case len(q.Names)+len(q.Aggs) == 0:
			r.Fail(api.ErrWord)
			return
		default:
			return
		}
	}
}

func (r *reader) aggregate() api.Agg {
	a := api.Agg{Op: r.aggregation()}
	r.Need("(")
	a.Distinct = r.word("DISTINCT")
	if a.Op != api.ACount || !r.Take("*") {
		a.Arg = r.variable()
	}
	r.Need(")")
	r.must("AS")
	a.Name = r.variable()
	return a
}

// aggregation goes past the word of one.
func (r *reader) aggregation() int {
	for _, a := range aggregates {
		if r.word(a.word) {
			return a.op
		}
	}
	r.Fail(api.ErrWord)
	return 0
}

// variables are one or more.
func (r *reader) variables() []string {
	l := []string{r.variable()}
	for r.Peek().Kind == api.TVar {
		l = append(l, r.variable())
	}
	return l
}

// keys are one or more.
func (r *reader) keys() []api.Key {
	var l []api.Key
	for {
		switch {
		case r.Peek().Kind == api.TVar:
			l = append(l, api.Key{Name: r.variable()})
		case r.word("ASC"):
			l = append(l, api.Key{Name: r.bracketed()})
		case r.word("DESC"):
			l = append(l, api.Key{Name: r.bracketed(), Down: true})
		case len(l) == 0:
			r.Fail(api.ErrWord)
			return nil
		default:
			return l
		}
	}
}

func (r *reader) bracketed() string {
	r.Need("(")
	name := r.variable()
	r.Need(")")
	return name
}

// count is how many solutions a LIMIT or OFFSET is of.
func (r *reader) count() int {
	t := r.Next()
	if t.Kind != api.TNum {
		r.Fail(api.ErrWord)
	}
	if len(t.S) > digits || strings.Contains(t.S, ".") {
		r.Fail(api.ErrOver)
	}
	n, _ := strconv.Atoi(t.S)
	return n
}

// scoped is whether what a SELECT tells, and its groups, may have their names.
func scoped(q api.Query) bool {
	there := Names(q.Where)
	told := slices.Clone(q.Names)
	for _, a := range q.Aggs {
		if slices.Contains(there, a.Name) {
			return false
		}
		told = append(told, a.Name)
	}
	if twice(told) || twice(q.Group) {
		return false
	}
	if len(q.Aggs)+len(q.Group) == 0 {
		return true
	}
	for _, name := range q.Names {
		if !slices.Contains(q.Group, name) {
			return false
		}
	}
	return len(told) > 0 // else it tells all
}

// twice is whether a name is there twice.
func twice(names []string) bool {
	l := slices.Sorted(slices.Values(names))
	return len(slices.Compact(l)) < len(names)
}
