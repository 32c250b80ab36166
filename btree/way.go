package btree

import (
	"sort"

	"triad/api"
	"triad/pager"
)

// step is a node on the way to a key, and which entry comes next: the kid where the way goes on, or a leaf's first
// entry that is not below the key.
type step struct {
	node
	i int
}

func (s step) has(key string) bool { return s.i < len(s.entries) && s.entries[s.i].key == key }

// way goes from the root to the leaf where a key belongs.
func way(p *pager.Pager, root int, key string) ([]step, api.Errno) {
	n, e := read(p, root)
	if e != api.OK {
		return nil, e
	}
	return down(p, nil, n, key)
}

// changing is way, where something is to be changed.
func changing(p *pager.Pager, root int, key string) ([]step, api.Errno) {
	e := closed(p)
	if e != api.OK {
		return nil, e
	}
	return way(p, root, key)
}

// closed is the error of what needs an open transaction. It asks by a call that is refused in one too, so that nothing
// is changed.
func closed(p *pager.Pager) api.Errno {
	if p.SetRoot(-1) == api.ErrBusy {
		return api.ErrBusy
	}
	return api.OK
}

// down goes on by a node to the leaf where a key belongs.
func down(p *pager.Pager, l []step, n node, key string) ([]step, api.Errno) {
	var i int
	var e api.Errno
on:
	i, e = place(p, n, key)
	if e != api.OK {
		goto none
	}
	l = append(l, step{n, i})
	if n.level == 0 {
		return l, api.OK
	}
	n, e = n.kid(p, i)
	if e == api.OK {
		goto on
	}
none:
	return nil, e
}

// place is which entry of a node comes next on the way to a key. Of kids it is the last one whose least key is not
// above it, else the first.
func place(p *pager.Pager, n node, key string) (int, api.Errno) {
	if n.level == 0 {
		return sort.Search(len(n.entries), func(i int) bool { return n.entries[i].key >= key }), api.OK
	}
	low, high := 0, len(n.entries)-1
	for low < high {
		mid := high - (high-low)/2
		k, e := least(p, n, mid)
		if e != api.OK {
			return 0, e
		}
		if k <= key {
			low = mid
		} else {
			high = mid - 1
		}
	}
	return low, api.OK
}

// least is the least key below a kid. It reads no more of each page than the first entry; whether the pages are what
// they must be is for the way that is taken to look at.
func least(p *pager.Pager, n node, i int) (string, api.Errno) {
	x := n.entries[i]
	for level := n.level - 1; level >= 0; level-- {
		_, _, r, e := open(p, x.kid)
		if e != api.OK {
			return "", e
		}
		x = next(r, level)
	}
	return x.key, api.OK
}

// onward goes from a leaf to the next one; nowhere, where there is none.
func onward(p *pager.Pager, l []step) ([]step, api.Errno) {
	for k := len(l) - 2; k >= 0; k-- {
		i := l[k].i + 1
		if i == len(l[k].entries) {
			continue
		}
		n, e := l[k].kid(p, i)
		if e != api.OK {
			return nil, e
		}
		l[k].i = i
		return down(p, l[:k+1], n, "")
	}
	return nil, api.OK
}

// walk shows the entries from a key on, in order, as long as see says so. More leaves than a disk has sectors are some
// that come again.
func walk(p *pager.Pager, root int, from string, see func(x entry) bool) api.Errno {
	l, e := way(p, root, from)
leaves:
	for left := api.MaxDisk; e == api.OK && len(l) > 0; left-- {
		if left == 0 {
			e = api.ErrBad
			break
		}
		leaf := l[len(l)-1]
		for _, x := range leaf.entries[leaf.i:] {
			if !see(x) {
				break leaves
			}
		}
		l, e = onward(p, l)
	}
	return e
}
