package path

import (
	"slices"

	"triad/api"
)

// Where each plan begins and ends.
const (
	first = iota
	last
)

// plan is a way as points, with legs from one to another. The way leads from one term to another, if some legs from the
// first point to the last one do.
type plan struct {
	graph
	legs [][]leg // of each point
}

// leg leads to a point: by a step from one term to others, or one stays where one is.
type leg struct {
	to    int
	stays bool
	by    map[int][]int
}

// part is a way that is to be laid out from one point to another.
type part struct {
	w        *api.Path
	from, to int
	back     bool      // it is turned
	deep     int       // in how many ways it stands
	mark     *api.Path // one of these
}

// draw makes the plan of a way. One that stands within itself leads nowhere.
func draw(g graph, w api.Path) plan {
	p := plan{graph: g, legs: make([][]leg, last+1)}
	rest := []part{{w: &w, from: first, to: last}}
	for len(rest) > 0 {
		t := rest[len(rest)-1]
		kids, ends := p.lay(t)
		if !ends {
			clear(p.legs)
			break
		}
		rest = append(rest[:len(rest)-1], kids...)
	}
	return p
}

// lay lays a part out, and answers its Kids, which are not yet; an only Kid is laid out at once. False: there is no end
// of Kids.
func (p *plan) lay(t part) (kids []part, ends bool) {
again:
	if t.endless() {
		return nil, false
	}
	switch t.w.Op {
	case api.PIri:
		p.leg(t.from, leg{to: t.to, by: p.steps[t.step()]})
	case api.PSeq:
		kids = p.row(t)
	case api.PAlt:
		kids = t.kids()
	case api.PInv, api.PPlus, api.PStar, api.POpt:
		if len(t.w.Kids) == 1 {
			t = p.only(t)
			goto again
		}
	}
	return kids, true
}

// row are the Kids of a sequence, from point to point.
func (p *plan) row(t part) []part {
	l := t.kids()
	if t.back {
		slices.Reverse(l)
	}
	for i := 1; i < len(l); i++ {
		between := p.point()
		l[i-1].to, l[i].from = between, between
	}
	return l
}

// only is the Kid of a way of one.
func (p *plan) only(t part) part {
	kid := t.kids()[0]
	switch t.w.Op {
	case api.PInv:
		kid.back = !t.back
	case api.POpt:
		p.stay(t.from, t.to)
	case api.PStar:
		p.stay(t.from, t.to)
		fallthrough
	case api.PPlus:
		kid.from, kid.to = p.point(), p.point()
		p.stay(t.from, kid.from)
		p.stay(kid.to, kid.from)
		p.stay(kid.to, t.to)
	}
	return kid
}

func (p *plan) point() int {
	p.legs = append(p.legs, nil)
	return len(p.legs) - 1
}

func (p *plan) stay(from, to int) { p.leg(from, leg{to: to, stays: true}) }

func (p *plan) leg(from int, l leg) { p.legs[from] = append(p.legs[from], l) }

// step is that of a way of one step.
func (t part) step() step {
	return step{by: api.Term{Kind: api.Iri, S: t.w.S}, back: t.back}
}

// kids are a way's Kids, each from where it begins to where it ends.
func (t part) kids() []part {
	var l []part
	for i := range t.w.Kids {
		kid := t
		kid.w = &t.w.Kids[i]
		kid.deep++
		l = append(l, kid)
	}
	return l
}

// endless tells whether a way stands within itself (a list of Kids may).
//
// It is held against one of those in which it stands, at a depth that doubles: on a way without end it comes by again.
func (t *part) endless() bool {
	if t.w == t.mark {
		return true
	}
	if t.deep&(t.deep-1) == 0 {
		t.mark = t.w
	}
	return false
}
