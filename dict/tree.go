package dict

import (
	"slices"

	"triad/api"
	"triad/btree"
	"triad/code"
	"triad/pager"
	"triad/term"
)

// tree is one on a pager's pages.
type tree struct {
	p    *pager.Pager
	root int
}

// numbers has the number of each term, terms the term of each number.
type (
	numbers struct{ tree }
	terms   struct{ tree }
)

func (d Dict) trees(p *pager.Pager) (numbers, terms) {
	return numbers{tree{p, d.Terms}}, terms{tree{p, d.Ids}}
}

// get is the value of a key that is there.
func (x tree) get(key []byte) ([]byte, api.Errno) {
	val, there, e := btree.Get(x.p, x.root, string(key))
	if e != api.OK {
		goto none
	}
	if there {
		return []byte(val), api.OK
	}
	e = api.ErrNone
none:
	return nil, e
}

func (x *tree) set(key, val []byte) api.Errno {
	root, e := btree.Set(x.p, x.root, string(key), string(val))
	x.root = root
	return e
}

func (x numbers) number(t api.Term) (int, api.Errno) {
	var b []byte
	var r *code.Reader
	id := 0
	e := term.Check(t)
	if e != api.OK {
		goto none
	}
	b, e = x.get(term.Bytes(t))
	if e != api.OK {
		goto none
	}
	r = code.New(b)
	id, e = r.Int(), r.End()
	if e == api.OK {
		return id, api.OK
	}
none:
	return 0, e
}

func (x *numbers) keep(t api.Term, id int) api.Errno { return x.set(term.Bytes(t), code.Int(nil, id)) }

func (x terms) term(id int) (api.Term, api.Errno) {
	b, e := x.get(place(id))
	if e != api.OK {
		return api.Term{}, e
	}
	return term.Parse(b)
}

func (x *terms) keep(id int, t api.Term) api.Errno { return x.set(place(id), term.Bytes(t)) }

// place is a number as a key. The highest byte stands first, so that each new number comes behind all others: a Commit
// of many has few pages to write.
func place(id int) []byte {
	b := code.Int(nil, id)
	slices.Reverse(b)
	return b
}
