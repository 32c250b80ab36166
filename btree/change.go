package btree

import (
	"sort"

	"triad/api"
	"triad/pager"
)

// group is how many nodes side by side are laid out anew together: three get fuller than two, and a Commit takes only
// so many pages.
const group = 3

// settle puts down what a change has made of a way's leaf, and goes up from there, as long as pages come or go. It
// tells the root.
func settle(p *pager.Pager, l []step) (int, api.Errno) {
	var beside []node
	var kids []entry
	from, k, e := 0, len(l)-1, api.OK
up:
	if k == 0 {
		return top(p, l[0].node)
	}
	if l[k].good() {
		e = write(p, l[k].at, l[k].level, l[k].entries...)
		goto out
	}
	beside, from, e = together(p, l[k-1], l[k].node)
	if e != api.OK {
		goto out
	}
	kids, e = lay(p, beside...)
	if e != api.OK || len(kids) == len(beside) {
		goto out
	}
	l[k-1].put(from, from+len(beside), kids...)
	k--
	goto up
out:
	if e != api.OK {
		return 0, e
	}
	return l[0].at, api.OK
}

// top is settle of the root.
func top(p *pager.Pager, n node) (int, api.Errno) {
	var kids []entry
	at, e := n.at, api.OK
	if n.kids() == 1 {
		at, e = n.entries[0].kid, p.Drop(n.at)
		goto out
	}
	kids, e = lay(p, n)
	if e == api.OK && len(kids) > 1 {
		at, e = add(p, n.level+1, kids...)
	}
out:
	if e != api.OK {
		return 0, e
	}
	return at, api.OK
}

// together are a kid that was changed and those beside it, and the place of the first of them; the kid alone, where
// the pages of all do not suffice.
func together(p *pager.Pager, above step, changed node) ([]node, int, api.Errno) {
	var l []node
	from := max(0, min(above.i-group/2, len(above.entries)-group))
	to := min(from+group, len(above.entries))
	for i := from; i < to; i++ {
		n, e := changed, api.OK
		if i != above.i {
			n, e = above.kid(p, i)
		}
		if e != api.OK {
			return nil, 0, e
		}
		l = append(l, n)
	}
	if len(even(l...)) > len(l) {
		return []node{changed}, above.i, api.OK
	}
	return l, from, api.OK
}

// lay divides what nodes have anew: on as few of their pages as it needs, and on new ones where these do not suffice.
// It tells those pages.
func lay(p *pager.Pager, l ...node) ([]entry, api.Errno) {
	var kids []entry
	e := api.OK
	level, parts := l[0].level, even(l...)
	for i, part := range parts {
		at := 0
		if i < len(l) {
			at = l[i].at
			e = write(p, at, level, part...)
		} else {
			at, e = add(p, level, part...)
		}
		if e != api.OK {
			goto none
		}
		kids = append(kids, entry{kid: at})
	}
	for _, spare := range l[min(len(parts), len(l)):] {
		e = p.Drop(spare.at)
		if e != api.OK {
			goto none
		}
	}
	return kids, api.OK
none:
	return nil, e
}

// even divides what nodes have, for as few pages as can be, and so that the fullest of them has as little as can be.
func even(l ...node) [][]entry {
	var all []entry
	for _, n := range l {
		all = append(all, n.entries...)
	}
	level := l[0].level
	fewest := len(parted(all, level, room))
	most := sort.Search(room, func(most int) bool { return len(parted(all, level, most)) == fewest })
	return parted(all, level, most)
}

// parted fills one page behind the other, with at most so many bytes, but with one entry at least, if there is one.
func parted(l []entry, level, most int) [][]entry {
	var parts [][]entry
	from, size := 0, 0
	for i, x := range l {
		if i > from && size+x.size(level) > most {
			parts = append(parts, l[from:i])
			from, size = i, 0
		}
		size += x.size(level)
	}
	return append(parts, l[from:])
}
