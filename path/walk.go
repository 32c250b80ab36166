package path

import "slices"

// walk goes along a plan.
type walk struct {
	plan
	trail []place    // where it came by, each once
	seen  [][]uint64 // of each point a bit for each term: whether it is on the trail; nothing, where it never came by
}

// place is where one is: at a point of the plan, and at a term.
type place struct{ point, term int }

func newWalk(p plan) *walk {
	return &walk{plan: p, seen: make([][]uint64, len(p.legs))}
}

// from tells which terms the plan leads to from one, in order.
func (w *walk) from(x int) []int {
	var ends []int
	w.come(first, x)
	for i := 0; i < len(w.trail); i++ {
		at := w.trail[i]
		if at.point == last {
			ends = append(ends, at.term)
		}
		for _, l := range w.legs[at.point] {
			if l.stays {
				w.come(l.to, at.term)
			}
			for _, y := range l.by[at.term] {
				w.come(l.to, y)
			}
		}
	}
	w.forget()
	slices.Sort(ends)
	return ends
}

func (w *walk) come(point, term int) {
	if w.seen[point] == nil {
		w.seen[point] = make([]uint64, len(w.terms)/64+1)
	}
	bits, bit := &w.seen[point][term/64], uint64(1)<<(term%64)
	if *bits&bit == 0 {
		*bits |= bit
		w.trail = append(w.trail, place{point, term})
	}
}

// forget takes back what the trail's places have in seen, and no more, as they may be few.
func (w *walk) forget() {
	for _, at := range w.trail {
		w.seen[at.point][at.term/64] = 0
	}
	w.trail = w.trail[:0]
}
