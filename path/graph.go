package path

import (
	"slices"

	"triad/api"
	"triad/own"
	"triad/term"
)

// graph is triples by numbers: those of its subjects and objects stand as the terms do.
type graph struct {
	terms []api.Term
	steps map[step]map[int][]int
}

// step is from the subject of a triple of that predicate to its object, or back.
type step struct {
	by   api.Term
	back bool
}

func number(l []api.Triple) graph {
	g := graph{terms: nodes(l), steps: map[step]map[int][]int{}}
	at := map[api.Term]int{}
	for i, t := range g.terms {
		at[t] = i
	}
	lead := func(s step, x, y int) {
		if g.steps[s] == nil {
			g.steps[s] = map[int][]int{}
		}
		g.steps[s][x] = append(g.steps[s][x], y)
	}
	for _, t := range l {
		x, y := at[t[0]], at[t[2]]
		lead(step{by: t[1]}, x, y)
		lead(step{by: t[1], back: true}, y, x)
	}
	return g
}

// nodes are subjects and objects, each once, in order.
func nodes(l []api.Triple) []api.Term {
	var all []api.Term
	for _, t := range l {
		all = append(all, t[0], t[2])
	}
	slices.SortFunc(all, term.Compare)
	all = slices.Compact(all)
	for i, t := range all {
		all[i] = own.Term(t)
	}
	return all
}
