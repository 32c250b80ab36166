package btree

import (
	"slices"

	"triad/api"
	"triad/code"
	"triad/pager"
)

// Keys stand in the leaves alone. A node above them has the numbers of its kids' pages and nothing else: which kid a
// key belongs to is told by the least keys below the kids. So nothing above the leaves is long or short: a page there
// has hundreds of kids, it is changed only where one comes or goes, and to take a key away never needs a page.

// The bytes of a page that are for entries (behind the level, and how many there are), those of a kid, and those that
// a key and its value have beside their own (the key's length, and that of both).
const (
	room    = api.Page - 2
	kidSize = 2
	lengths = 3
)

// highest is the highest level there may be: as each node above the leaves has two kids or more, one more would need
// more leaves than a disk has sectors.
const highest = 11

// node is a page of a tree.
type node struct {
	at      int
	level   int // how far above the leaves; 0: a leaf
	entries []entry
}

// entry is a leaf's key and its value, or a kid: its page.
type entry struct {
	key, val string
	kid      int
}

// kids is how many kids a node has.
func (n node) kids() int {
	if n.level == 0 {
		return 0
	}
	return len(n.entries)
}

// put sets entries in the place of those from one to another.
func (n *node) put(from, to int, l ...entry) {
	n.entries = slices.Concat(n.entries[:from], l, n.entries[to:])
}

// good is whether a node has neither too much for its page nor too little.
func (n node) good() bool {
	size := 0
	for _, x := range n.entries {
		size += x.size(n.level)
	}
	return size >= room/2 && size <= room
}

func (x entry) size(level int) int {
	if level > 0 {
		return kidSize
	}
	return lengths + len(x.key) + len(x.val)
}

// behind is b with an entry behind it, as a page has it.
func (x entry) behind(b []byte, level int) []byte {
	if level > 0 {
		return code.Byte(code.Byte(b, x.kid), x.kid>>8)
	}
	return code.Text(code.Byte(b, len(x.key)), x.key+x.val)
}

// open begins to read a page: it tells the level, how many entries there are, and a reader of them.
func open(p *pager.Pager, at int) (level, n int, r *code.Reader, e api.Errno) {
	b, e := p.Get(at)
	if e != api.OK {
		return 0, 0, nil, e
	}
	r = code.New(b)
	return r.Byte(), r.Byte(), r, api.OK
}

// next reads an entry.
func next(r *code.Reader, level int) entry {
	n := r.Byte()
	if level > 0 {
		return entry{kid: n | r.Byte()<<8}
	}
	s := r.Text()
	if n > len(s) {
		r.Fail(api.ErrBad)
		return entry{}
	}
	return entry{key: s[:n], val: s[n:]}
}

// failed is whether an entry could not be read.
func failed(r *code.Reader) bool { return r.End() != api.OK && r.End() != api.ErrMore }

// read reads a page, if it is one that write may have written.
func read(p *pager.Pager, at int) (node, api.Errno) {
	var l []entry
	level, n, r, e := open(p, at)
	if e != api.OK {
		goto none
	}
	for range n {
		l = append(l, next(r, level))
	}
	if !failed(r) && level <= highest && (level == 0 || n > 1) {
		return node{at, level, l}, api.OK
	}
	e = api.ErrBad
none:
	return node{}, e
}

// kid reads a kid, if it is what it must be: one level below (so each way down ends), and not empty.
func (n node) kid(p *pager.Pager, i int) (node, api.Errno) {
	k, e := read(p, n.entries[i].kid)
	if e == api.OK && (k.level != n.level-1 || len(k.entries) == 0) {
		return node{}, api.ErrBad
	}
	return k, e
}

func write(p *pager.Pager, at, level int, l ...entry) api.Errno {
	b := code.Byte(code.Byte(nil, level), len(l))
	for _, x := range l {
		b = x.behind(b, level)
	}
	return p.Put(at, b)
}

// add writes a new page.
func add(p *pager.Pager, level int, l ...entry) (int, api.Errno) {
	at, e := p.New()
	if e != api.OK {
		goto none
	}
	e = write(p, at, level, l...)
	if e == api.OK {
		return at, api.OK
	}
none:
	return 0, e
}
