package sol

import (
	"slices"
	"strings"

	"triad/api"
)

// Sort puts a row in order.
func Sort(l []api.Sol) []api.Sol {
	out := make([]api.Sol, 0, len(l))
	for _, s := range l {
		out = append(out, clone(s))
	}
	return order(out)
}

// Join is each of one row with each of another that it meets.
func Join(a, b []api.Sol) ([]api.Sol, api.Errno) { return join(a, b, false) }

// Left is that, and those of the one row that meet none.
func Left(a, b []api.Sol) ([]api.Sol, api.Errno) { return join(a, b, true) }

// join is either; lone tells whether those that meet none are there too. What meets is made when it is known that it is
// not too many.
func join(a, b []api.Sol, lone bool) ([]api.Sol, api.Errno) {
	var pairs [][2]api.Sol
	add := func(x, y api.Sol) bool {
		pairs = append(pairs, [2]api.Sol{x, y})
		return len(pairs) <= api.MaxSols
	}
	for _, x := range a {
		alone := lone
		for _, y := range b {
			_, met := common(x, y)
			if met && !add(x, y) {
				goto many
			}
			alone = alone && !met
		}
		if alone && !add(x, nil) {
			goto many
		}
	}
	return order(each(pairs)), api.OK
many:
	return nil, api.ErrMany
}

// each makes what two solutions that meet have together.
func each(pairs [][2]api.Sol) []api.Sol {
	var row []api.Sol
	for _, p := range pairs {
		s, _ := Meet(p[0], p[1])
		row = append(row, s)
	}
	return row
}

// Minus is those of a row that no other one takes away.
func Minus(a, b []api.Sol) []api.Sol {
	var row []api.Sol
next:
	for _, x := range a {
		for _, y := range b {
			if n, met := common(x, y); met && n > 0 {
				continue next
			}
		}
		row = append(row, clone(x))
	}
	return order(row)
}

// clone is a solution that nobody else has: with none, it always meets.
func clone(s api.Sol) api.Sol {
	out, _ := Meet(s, nil)
	return out
}

// line is a solution and its text.
type line struct {
	text string
	s    api.Sol
}

// order puts a row that nobody else has in order. Each text is made once, however often it is held against others.
func order(row []api.Sol) []api.Sol {
	lines := make([]line, len(row))
	for i, s := range row {
		lines[i] = line{text: Text(s), s: s}
	}
	slices.SortStableFunc(lines, func(a, b line) int { return strings.Compare(a.text, b.text) })
	for i, x := range lines {
		row[i] = x.s
	}
	return row
}
