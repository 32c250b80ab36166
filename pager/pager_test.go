package pager_test

import (
	"bytes"
	"encoding/binary"
	"maps"
	"math"
	"slices"
	"strconv"
	"strings"
	"sync"
	"testing"

	"triad/api"
	"triad/disk"
	"triad/pager"
)

// full is a page as it is got: s, with noughts behind.
func full(s string) string { return s + strings.Repeat("\x00", api.Page-len(s)) }

// is tells a fault where an error is another one.
func is(t *testing.T, what string, got, want api.Errno) {
	t.Helper()
	if got != want {
		t.Errorf("%s: %v, not %v", what, got, want)
	}
}

// opened are a disk's pages.
func opened(t *testing.T, d *disk.Disk) *pager.Pager {
	t.Helper()
	p, e := pager.Open(d)
	if e != api.OK || p == nil {
		t.Fatalf("Open: %v", e)
	}
	return p
}

// change does something in a transaction of its own, which must be committed with OK.
func change(t *testing.T, p *pager.Pager, do func()) {
	t.Helper()
	is(t, "Begin", p.Begin(), api.OK)
	do()
	is(t, "Commit", p.Commit(), api.OK)
}

// gives tells a fault where New answers another page, or one that is not all noughts.
func gives(t *testing.T, what string, p *pager.Pager, want ...int) {
	t.Helper()
	for _, k := range want {
		at, e := p.New()
		if at != k || e != api.OK {
			t.Errorf("%s: New: %d, %v, not %d", what, at, e, k)
		}
		got(t, what, p, at, "")
	}
}

// got tells a fault where a page has other bytes.
func got(t *testing.T, what string, p *pager.Pager, at int, want string) {
	t.Helper()
	b, e := p.Get(at)
	if e != api.OK || string(b) != full(want) {
		t.Errorf("%s: page %d: %d bytes, %q, %v, not %q", what, at, len(b), b[:min(len(b), 16)], e, want[:min(len(want), 16)])
	}
}

// put puts what must be put with OK.
func put(t *testing.T, p *pager.Pager, at int, s string) {
	t.Helper()
	is(t, "Put "+strconv.Itoa(at), p.Put(at, []byte(s)), api.OK)
}

// drop drops what must be dropped with OK.
func drop(t *testing.T, p *pager.Pager, at ...int) {
	t.Helper()
	for _, k := range at {
		is(t, "Drop "+strconv.Itoa(k), p.Drop(k), api.OK)
	}
}

// book is what a pager must tell, in the promises' own words.
type book struct {
	last, root int
	text       map[int]string // the pages in use
	gone       []int          // those that are free and were in use ever, the one that was dropped last at the end
	ever       int            // how many were in use ever: the least ones
}

func fresh(sectors int) *book { return &book{last: sectors - 402, text: map[int]string{}} }

func (b *book) copied() *book {
	c := *b
	c.text, c.gone = maps.Clone(b.text), slices.Clone(b.gone)
	return &c
}

func (b *book) free() int { return b.last - len(b.text) }

// take is New; 0 where there is none.
func (b *book) take() int {
	at := 0
	switch n := len(b.gone); {
	case n > 0:
		at, b.gone = b.gone[n-1], b.gone[:n-1]
	case b.ever < b.last:
		b.ever++
		at = b.ever
	default:
		return 0
	}
	b.text[at] = ""
	return at
}

func (b *book) drop(at int) {
	delete(b.text, at)
	b.gone = append(b.gone, at)
}

// shows tells a fault where Root, Free or a page is another one, or one is had that is not in use.
func (b *book) shows(t *testing.T, what string, p *pager.Pager) {
	t.Helper()
	if s := b.against(p); s != "" {
		t.Errorf("%s: %s", what, s)
	}
}

// against tells the first fault of a pager; nothing, if there is none.
func (b *book) against(p *pager.Pager) string {
	if p.Root() != b.root || p.Free() != b.free() {
		return "Root " + strconv.Itoa(p.Root()) + ", Free " + strconv.Itoa(p.Free()) + ", not " + strconv.Itoa(b.root) + ", " + strconv.Itoa(b.free())
	}
	for at := -1; at <= b.last+1; at++ {
		s, there := b.text[at]
		want, e := full(s), api.OK
		if !there {
			want, e = "", api.ErrArg
		}
		if c, f := p.Get(at); f != e || string(c) != want {
			return "page " + strconv.Itoa(at) + ": " + strconv.Itoa(len(c)) + " bytes, " + f.Error()
		}
	}
	return ""
}

// all tells a fault as shows does, or where New, again and again, answers other pages; none may be open.
func (b *book) all(t *testing.T, what string, p *pager.Pager) {
	t.Helper()
	if s := b.wholly(p); s != "" {
		t.Errorf("%s: %s", what, s)
	}
}

func (b *book) wholly(p *pager.Pager) string {
	if s := b.against(p); s != "" {
		return s
	}
	c := b.copied()
	if e := p.Begin(); e != api.OK {
		return "Begin: " + e.Error()
	}
	defer p.Abort()
	for {
		want, e := c.take(), api.OK
		if want == 0 {
			e = api.ErrFull
		}
		if at, f := p.New(); at != want || f != e {
			return "New: " + strconv.Itoa(at) + ", " + f.Error() + ", not " + strconv.Itoa(want)
		}
		if want == 0 {
			return ""
		}
	}
}

// P401: Open

func TestOpenSizes(t *testing.T) {
	for _, n := range []int{math.MinInt, -1, 0, 1, 2, 400, 401, 402} {
		d := disk.New(n)
		p, e := pager.Open(d)
		is(t, strconv.Itoa(n)+" sectors", e, api.ErrArg)
		if p != nil || d.Ops() != 0 {
			t.Errorf("P4, P5: %d sectors: a pager, or %d Writes and Syncs", n, d.Ops())
		}
	}
	for _, n := range []int{403, 404, 405, 900, 2999, 3000} {
		d := disk.New(n)
		fresh(n).all(t, "a new disk of "+strconv.Itoa(n), opened(t, d))
		if d.Ops() != 0 {
			t.Errorf("a new disk: %d Writes and Syncs", d.Ops())
		}
	}
}

// fails tells a fault where Open answers another error, or a pager beside it.
func fails(t *testing.T, what string, d *disk.Disk, want api.Errno) {
	t.Helper()
	p, e := pager.Open(d)
	is(t, what, e, want)
	if p != nil {
		t.Errorf("P4: %s: a pager beside the error", what)
	}
}

func TestOpenDead(t *testing.T) {
	small, d := disk.New(402), disk.New(403)
	for _, x := range []*disk.Disk{small, d} {
		x.Stop(1)
		x.Sync()
	}
	fails(t, "P6: too few sectors, no power", small, api.ErrArg)
	fails(t, "no power", d, api.ErrDead)
	d.Crash(nil)
	fresh(403).all(t, "the power is there again", opened(t, d))
}

// pending is a disk on which a Commit of page 1 was broken off behind the log: it is not at home.
func pending(t *testing.T) *disk.Disk {
	t.Helper()
	d := disk.New(410)
	p := opened(t, d)
	is(t, "Begin", p.Begin(), api.OK)
	gives(t, "a new disk", p, 1)
	put(t, p, 1, "one")
	d.Stop(6)
	is(t, "a Commit that is broken off", p.Commit(), api.ErrDead)
	d.Crash(nil)
	return d
}

func TestOpenRecovers(t *testing.T) {
	d := pending(t)
	b := fresh(410)
	b.text[b.take()] = "one"
	b.all(t, "it comes home", opened(t, d))
	for stop := 1; stop <= 5; stop++ {
		d = pending(t)
		d.Stop(stop)
		fails(t, "the power goes in Recover", d, api.ErrDead)
		d.Crash(nil)
		b.all(t, "it comes home all the same", opened(t, d))
	}
	d = pending(t)
	d.Write(2, binary.LittleEndian.AppendUint64(nil, 400))
	fails(t, "Recover's ErrBad", d, api.ErrBad)
}

// What no pager can have written is refused, not followed.
func TestOpenBad(t *testing.T) {
	for what, far := range map[string][]int{ // of page 0, 1, 2 how far its next one is from the one behind it
		"below page 1":              {-1},
		"far below":                 {math.MinInt},
		"behind the end":            {9},
		"far behind":                {math.MaxInt},
		"a page's own number":       {0, -1},
		"a page ahead":              {0, 0, -2},
		"page 0":                    {0, 0, -3},
		"behind the end, of a page": {1, 0, 7},
	} {
		d := disk.New(410)
		for at, n := range far {
			d.Write(401+at, binary.LittleEndian.AppendUint64(nil, uint64(n)))
		}
		d.Sync()
		fails(t, what, d, api.ErrBad)
	}
}

// P401, P402: transactions

// without tells a fault where a call that needs an open transaction answers no ErrBusy.
func without(t *testing.T, what string, p *pager.Pager) {
	t.Helper()
	for _, at := range []int{math.MinInt, -1, 0, 1, 2, 3, 4, 8, 9, 3000, math.MaxInt} {
		is(t, what+": Put", p.Put(at, []byte("x")), api.ErrBusy)
		is(t, what+": Put of too many", p.Put(at, make([]byte, 505)), api.ErrBusy)
		is(t, what+": Drop", p.Drop(at), api.ErrBusy)
		is(t, what+": SetRoot", p.SetRoot(at), api.ErrBusy)
		k, e := p.New()
		is(t, what+": New", e, api.ErrBusy)
		if k != 0 {
			t.Errorf("P4: %s: New: %d beside the error", what, k)
		}
		is(t, what+": Commit", p.Commit(), api.ErrBusy)
		p.Abort()
	}
}

func TestWithout(t *testing.T) {
	d := disk.New(410)
	p := opened(t, d)
	b := fresh(410)
	check := func(what string) {
		t.Helper()
		ops := d.Ops()
		without(t, what, p)
		b.all(t, "P5: "+what, p)
		without(t, what+", once more", p)
		if d.Ops() != ops {
			t.Errorf("P5: %s: %d Writes and Syncs", what, d.Ops()-ops)
		}
		b.all(t, "P5: opened again: "+what, opened(t, d))
	}
	check("a new disk")
	change(t, p, func() {
		gives(t, "a new disk", p, 1, 2, 3)
		put(t, p, 2, "two")
		drop(t, p, 3)
		is(t, "SetRoot", p.SetRoot(7), api.OK)
	})
	b.text, b.gone, b.ever, b.root = map[int]string{1: "", 2: "two"}, []int{3}, 3, 7
	check("behind a Commit")
	is(t, "Begin", p.Begin(), api.OK)
	put(t, p, 2, "new")
	p.Abort()
	check("behind an Abort")
	is(t, "Begin", p.Begin(), api.OK)
	is(t, "Commit of nothing", p.Commit(), api.OK)
	check("behind a Commit of nothing")
	p = opened(t, d)
	check("behind an Open")
}

func TestBeginTwice(t *testing.T) {
	p := opened(t, disk.New(410))
	b := fresh(410)
	is(t, "Begin", p.Begin(), api.OK)
	is(t, "a second Begin", p.Begin(), api.ErrBusy)
	gives(t, "the first goes on", p, 1, 2)
	put(t, p, 1, "one")
	is(t, "SetRoot", p.SetRoot(2), api.OK)
	is(t, "a second Begin", p.Begin(), api.ErrBusy)
	c := b.copied()
	c.text, c.ever, c.root = map[int]string{1: "one", 2: ""}, 2, 2
	c.shows(t, "P5: the second Begin changed nothing", p)
	p.Abort()
	b.all(t, "Abort: as at the first Begin", p)
	is(t, "Begin behind an Abort", p.Begin(), api.OK)
	is(t, "Commit", p.Commit(), api.OK)
	is(t, "Begin behind a Commit", p.Begin(), api.OK)
}

// P401: Get

func TestGet(t *testing.T) {
	d := disk.New(410)
	p := opened(t, d)
	change(t, p, func() {
		gives(t, "a new disk", p, 1, 2, 3)
		put(t, p, 1, "one")
		got(t, "put, not committed", p, 1, "one")
		put(t, p, 2, "first")
		put(t, p, 2, "put last")
		got(t, "put twice", p, 2, "put last")
		got(t, "never put", p, 3, "")
	})
	got(t, "committed", p, 1, "one")
	got(t, "committed", p, 2, "put last")
	is(t, "Begin", p.Begin(), api.OK)
	got(t, "in a transaction, not put in it", p, 2, "put last")
	put(t, p, 2, "new")
	got(t, "put in it", p, 2, "new")
	got(t, "another one", opened(t, d), 2, "put last")
	p.Abort()
	got(t, "given up", p, 2, "put last")
	got(t, "given up", p, 1, "one")
}

func TestGetFaults(t *testing.T) {
	d := disk.New(410)
	p := opened(t, d)
	change(t, p, func() {
		gives(t, "a new disk", p, 1, 2, 3)
		put(t, p, 2, "two")
		drop(t, p, 2)
	})
	lacks := func(what string, at ...int) {
		t.Helper()
		for _, k := range at {
			b, e := p.Get(k)
			is(t, what+": "+strconv.Itoa(k), e, api.ErrArg)
			if len(b) != 0 {
				t.Errorf("P4: %s: %d bytes beside the error", what, len(b))
			}
		}
	}
	never := []int{math.MinInt, -401, -400, -2, -1, 0, 2, 4, 7, 8, 9, 10, 409, 3000, 1<<32 + 1, math.MaxInt - 401, math.MaxInt}
	lacks("no such page", never...)
	is(t, "Begin", p.Begin(), api.OK)
	lacks("no such page", never...)
	drop(t, p, 1)
	lacks("dropped in the transaction", 1, 2)
	gives(t, "dropped", p, 1)
	p.Abort()
	d.Stop(1)
	d.Sync()
	lacks("P6: no such page, no power", never...)
	b, e := p.Get(1)
	is(t, "disk's error", e, api.ErrDead)
	if len(b) != 0 {
		t.Errorf("P4: %d bytes beside the error", len(b))
	}
}

// P401: Root, P402: SetRoot

func TestRoot(t *testing.T) {
	d := disk.New(403)
	p := opened(t, d)
	was := 0
	for _, at := range []int{1, 0, 2, 255, 256, 3000, 1 << 32, 1<<40 + 7, math.MaxInt, 0, math.MaxInt - 1} {
		is(t, "Begin", p.Begin(), api.OK)
		is(t, "SetRoot", p.SetRoot(at/2), api.OK)
		is(t, "SetRoot", p.SetRoot(at), api.OK)
		for _, bad := range []int{-1, -2, -3000, math.MinInt + 1, math.MinInt} {
			is(t, "below 0", p.SetRoot(bad), api.ErrArg)
		}
		if p.Root() != at {
			t.Errorf("Root: %d, not %d", p.Root(), at)
		}
		p.Abort()
		if p.Root() != was {
			t.Errorf("given up: Root: %d, not %d", p.Root(), was)
		}
		change(t, p, func() { is(t, "SetRoot", p.SetRoot(at), api.OK) })
		was = at
		b := fresh(403)
		b.root = at
		b.all(t, "committed", p)
		p = opened(t, d)
		b.all(t, "opened again", p)
	}
}

// P402: Put

func TestPut(t *testing.T) {
	d := disk.New(410)
	p := opened(t, d)
	change(t, p, func() { gives(t, "a new disk", p, 1, 2) })
	for _, s := range []string{"a", strings.Repeat("m", 504), "", strings.Repeat("n", 503), "\x00\x00b\x00", strings.Repeat("\xff", 504), "short", strings.Repeat("\x00", 504)} {
		change(t, p, func() {
			put(t, p, 1, s)
			got(t, "put", p, 1, s)
		})
		got(t, "committed", p, 1, s)
		got(t, "opened again", opened(t, d), 1, s)
		got(t, "the one behind it", p, 2, "")
	}
	change(t, p, func() {
		put(t, p, 2, strings.Repeat("m", 504))
		is(t, "Put of nil", p.Put(2, nil), api.OK)
		got(t, "no bytes over 504", p, 2, "")
	})
	got(t, "no bytes", opened(t, d), 2, "")
}

func TestPutFaults(t *testing.T) {
	d := disk.New(410)
	p := opened(t, d)
	change(t, p, func() {
		gives(t, "a new disk", p, 1, 2, 3)
		put(t, p, 1, "one")
		put(t, p, 3, "three")
		drop(t, p, 2)
	})
	is(t, "Begin", p.Begin(), api.OK)
	put(t, p, 3, "new")
	for _, n := range []int{505, 506, 512, 513, 1 << 16, 1<<16 + 504} {
		is(t, "too long", p.Put(1, make([]byte, n)), api.ErrLong)
		is(t, "too long", p.Put(3, make([]byte, n)), api.ErrLong)
	}
	for _, at := range []int{math.MinInt, -401, -1, 0, 2, 4, 8, 9, 409, 3000, 1<<32 + 1, math.MaxInt - 400, math.MaxInt} {
		is(t, "no such page", p.Put(at, []byte("x")), api.ErrArg)
		is(t, "no such page, no bytes", p.Put(at, nil), api.ErrArg)
		is(t, "P6: no such page, too long", p.Put(at, make([]byte, 505)), api.ErrArg)
		is(t, "Drop of no such page", p.Drop(at), api.ErrArg)
	}
	b := fresh(410)
	b.text, b.gone, b.ever = map[int]string{1: "one", 3: "new"}, []int{2}, 3
	b.shows(t, "P5", p)
	is(t, "Commit", p.Commit(), api.OK)
	b.all(t, "P5", p)
	b.all(t, "P5", opened(t, d))
}

// A page's home is sector 401 + its number, and it has none of its bytes ahead of the Commit.
func TestHomes(t *testing.T) {
	for _, n := range []int{405, 3000} {
		d := disk.New(n)
		p := opened(t, d)
		is(t, "Begin", p.Begin(), api.OK)
		for at := 1; at <= 3; at++ {
			gives(t, "a new disk", p, at)
			put(t, p, at, "page "+strconv.Itoa(at))
		}
		if d.Ops() != 0 {
			t.Errorf("ahead of the Commit: %d Writes and Syncs", d.Ops())
		}
		is(t, "Commit", p.Commit(), api.OK)
		for at := 1; at <= 3; at++ {
			s, e := d.Read(401 + at)
			if e != api.OK || string(s[:504]) != full("page "+strconv.Itoa(at)) {
				t.Errorf("sector %d: %q, %v", 401+at, s[:16], e)
			}
		}
	}
}

// P402: New, Drop, Free

func TestNewAll(t *testing.T) {
	for _, n := range []int{403, 404, 410, 790} {
		d := disk.New(n)
		p := opened(t, d)
		b := fresh(n)
		is(t, "Begin", p.Begin(), api.OK)
		for at := 1; at <= n-402; at++ {
			gives(t, "a new disk", p, at)
			b.take()
			if p.Free() != n-402-at {
				t.Errorf("Free: %d, not %d", p.Free(), n-402-at)
			}
		}
		for range 2 {
			at, e := p.New()
			is(t, "none is free", e, api.ErrFull)
			if at != 0 {
				t.Errorf("P4: %d beside the error", at)
			}
		}
		put(t, p, n-402, "last")
		b.text[n-402] = "last"
		b.shows(t, "P5: all in use", p)
		is(t, "Commit", p.Commit(), api.OK)
		b.all(t, "all in use", opened(t, d))
		change(t, p, func() {
			drop(t, p, n-402)
			gives(t, "the one that is free: noughts, whatever it had", p, n-402)
			is(t, "ErrFull again", second(p.New()), api.ErrFull)
		})
		got(t, "noughts", opened(t, d), n-402, "")
	}
}

func second(_ int, e api.Errno) api.Errno { return e }

func TestDropOrder(t *testing.T) {
	for _, again := range []bool{false, true} { // whether each transaction is the first one behind an Open
		d := disk.New(412)
		p := opened(t, d)
		next := func(do func()) {
			t.Helper()
			change(t, p, do)
			if again {
				p = opened(t, d)
			}
		}
		next(func() {
			gives(t, "the least that never was", p, 1, 2, 3, 4, 5, 6)
			put(t, p, 3, "three")
			drop(t, p, 3, 1, 5)
		})
		next(func() {
			gives(t, "the one that was dropped last", p, 5)
			drop(t, p, 2)
			gives(t, "of two transactions", p, 2, 1, 3)
			gives(t, "behind them the least that never was", p, 7)
			drop(t, p, 7, 6, 5)
			gives(t, "the last one first", p, 5)
			drop(t, p, 1)
		})
		if p.Free() != 10-4 {
			t.Errorf("Free: %d, not 6", p.Free())
		}
		next(func() { gives(t, "the last one first", p, 1, 6) })
		next(func() { gives(t, "the last one first, then those that never were", p, 7, 8, 9) })
		next(func() { drop(t, p, 9, 8, 7, 6, 5, 4, 3, 2, 1) })
		next(func() { gives(t, "all were dropped", p, 1, 2, 3, 4, 5) })
		next(func() { drop(t, p, 1, 2, 3, 4, 5) })
		next(func() { gives(t, "the other way round", p, 5, 4, 3, 2, 1, 6, 7, 8, 9, 10) })
		is(t, "none left: Begin", p.Begin(), api.OK)
		is(t, "none left", second(p.New()), api.ErrFull)
	}
}

func TestDropFaults(t *testing.T) {
	d := disk.New(410)
	p := opened(t, d)
	is(t, "Begin", p.Begin(), api.OK)
	for at := -1; at < 10; at++ {
		is(t, "none is in use", p.Drop(at), api.ErrArg)
	}
	gives(t, "P5", p, 1, 2)
	drop(t, p, 1)
	is(t, "twice", p.Drop(1), api.ErrArg)
	is(t, "Put of a dropped one", p.Put(1, []byte("x")), api.ErrArg)
	is(t, "Get of a dropped one", errOf(p.Get(1)), api.ErrArg)
	is(t, "Commit", p.Commit(), api.OK)
	is(t, "Begin", p.Begin(), api.OK)
	is(t, "dropped and committed", p.Drop(1), api.ErrArg)
	gives(t, "P5", p, 1)
	drop(t, p, 1, 2)
	is(t, "Commit", p.Commit(), api.OK)
	b := fresh(410)
	b.gone, b.ever = []int{1, 2}, 2
	b.all(t, "all dropped", p)
	b.all(t, "all dropped", opened(t, d))
}

func errOf(_ []byte, e api.Errno) api.Errno { return e }

// What was dropped has noughts when it comes again, whatever it had, and whether or not a Commit was between.
func TestNoughts(t *testing.T) {
	d := disk.New(406)
	p := opened(t, d)
	change(t, p, func() {
		gives(t, "a new disk", p, 1, 2)
		put(t, p, 1, strings.Repeat("#", 504))
		put(t, p, 2, strings.Repeat("#", 504))
	})
	change(t, p, func() {
		drop(t, p, 1)
		gives(t, "dropped in it", p, 1)
		drop(t, p, 2)
	})
	got(t, "committed", p, 1, "")
	got(t, "opened again", opened(t, d), 1, "")
	change(t, p, func() { gives(t, "dropped ahead of it", p, 2) })
	got(t, "committed", p, 2, "")
	got(t, "opened again", opened(t, d), 2, "")
}

// P402: Abort

func TestAbort(t *testing.T) {
	d := disk.New(412)
	p := opened(t, d)
	b := fresh(412)
	b.text, b.gone, b.ever, b.root = map[int]string{1: "one", 3: "three", 5: "five"}, []int{4, 2}, 5, 3
	change(t, p, func() {
		gives(t, "a new disk", p, 1, 2, 3, 4, 5)
		put(t, p, 1, "one")
		put(t, p, 3, "three")
		put(t, p, 5, "five")
		drop(t, p, 4, 2)
		is(t, "SetRoot", p.SetRoot(3), api.OK)
	})
	ops := d.Ops()
	for what, do := range map[string]func(){
		"nothing":             func() {},
		"Put":                 func() { put(t, p, 1, "new"); put(t, p, 3, "") },
		"SetRoot":             func() { p.SetRoot(9) },
		"New of one that was": func() { gives(t, "New", p, 2) },
		"New of all that were, and of one that never was": func() { gives(t, "New", p, 2, 4, 6); put(t, p, 6, "six") },
		"New of all":           func() { gives(t, "New", p, 2, 4, 6, 7, 8, 9, 10) },
		"Drop":                 func() { drop(t, p, 3) },
		"Drop of all":          func() { drop(t, p, 5, 1, 3) },
		"New, Drop":            func() { gives(t, "New", p, 2, 4, 6); drop(t, p, 2, 4, 6) },
		"Drop, New, Put":       func() { drop(t, p, 1, 3); gives(t, "New", p, 3, 1, 2); put(t, p, 3, "other") },
		"New, Put, Drop again": func() { gives(t, "New", p, 2); put(t, p, 2, "two"); drop(t, p, 2, 5) },
	} {
		for range 2 {
			is(t, "Begin", p.Begin(), api.OK)
			do()
			p.Abort()
			b.all(t, what, p)
		}
		b.all(t, what+": opened again", opened(t, d))
	}
	if d.Ops() != ops {
		t.Errorf("Abort: %d Writes and Syncs", d.Ops()-ops)
	}
	change(t, p, func() { gives(t, "behind them", p, 2, 4, 6, 7) })
	b.text[2], b.text[4], b.text[6], b.text[7], b.gone, b.ever = "", "", "", "", nil, 7
	b.all(t, "a Commit behind them", opened(t, d))
}

// P402: Commit

// many is a disk on which so many pages are in use, all "old".
func many(t *testing.T, n int) (*disk.Disk, *pager.Pager, *book) {
	t.Helper()
	d := disk.New(1400)
	p := opened(t, d)
	b := fresh(1400)
	for from := 1; from <= n; from += 300 {
		change(t, p, func() {
			for at := from; at <= min(from+299, n); at++ {
				gives(t, "a new disk", p, at)
				put(t, p, at, "old")
				b.take()
				b.text[at] = "old"
			}
		})
	}
	return d, p, b
}

func TestMost(t *testing.T) {
	put := func(n int, s string) func(*pager.Pager, *book) {
		return func(p *pager.Pager, b *book) {
			for at := 1; at <= n; at++ {
				p.Put(at, []byte(s))
				b.text[at] = s
			}
		}
	}
	root := func(p *pager.Pager, b *book) {
		p.SetRoot(5)
		b.root = 5
	}
	take := func(n int) func(*pager.Pager, *book) {
		return func(p *pager.Pager, b *book) {
			for range n {
				p.New()
				b.take()
			}
		}
	}
	drop := func(n int) func(*pager.Pager, *book) {
		return func(p *pager.Pager, b *book) {
			for at := 1; at <= n; at++ {
				p.Drop(500 - at)
				b.drop(500 - at)
			}
		}
	}
	type does = []func(*pager.Pager, *book)
	for _, c := range []struct {
		what string
		do   does
		want api.Errno
	}{
		{"399 put", does{put(399, "new")}, api.OK},
		{"400 put", does{put(400, "new")}, api.OK},
		{"401 put", does{put(401, "new")}, api.ErrMany},
		{"500 put", does{put(500, "new")}, api.ErrMany},
		{"400 put, page 0", does{put(400, "new"), root}, api.ErrMany},
		{"399 put, page 0", does{root, put(399, "new")}, api.OK},
		{"399 taken, page 0", does{take(399)}, api.OK},
		{"400 taken, page 0", does{take(400)}, api.ErrMany},
		{"401 taken", does{take(401)}, api.ErrMany},
		{"399 taken, page 0 once", does{root, take(399), root}, api.OK},
		{"399 dropped, page 0", does{drop(399)}, api.OK},
		{"400 dropped, page 0", does{drop(400)}, api.ErrMany},
		{"some of each: 400", does{put(100, "new"), take(200), drop(99)}, api.OK},
		{"some of each: 401", does{put(101, "new"), take(200), drop(99)}, api.ErrMany},
		{"400 put twice", does{put(400, "first"), put(400, "new")}, api.OK},
		{"500 put, all but 400 of them as they were", does{put(500, "new"), put(500, "old"), put(400, "new")}, api.OK},
		{"500 put as they were", does{put(500, "old")}, api.OK},
	} {
		d, p, b := many(t, 500)
		ops, after := d.Ops(), b.copied()
		is(t, "Begin", p.Begin(), api.OK)
		for _, do := range c.do {
			do(p, after)
		}
		after.shows(t, c.what, p)
		is(t, c.what, p.Commit(), c.want)
		if c.want == api.OK {
			b = after
		} else if d.Ops() != ops {
			t.Errorf("P5: %s: %d Writes and Syncs", c.what, d.Ops()-ops)
		}
		without(t, "behind it", p)
		b.all(t, c.what, p)
		b.all(t, c.what+": opened again", opened(t, d))
		change(t, p, func() { p.Put(1, []byte("more")) })
		b.text[1] = "more"
		b.all(t, c.what+": a Commit behind it", opened(t, d))
	}
}

// Where nothing was changed nothing is written.
func TestNothingChanged(t *testing.T) {
	d, p, b := many(t, 5)
	change(t, p, func() {
		drop(t, p, 4, 2)
		put(t, p, 3, "")
		is(t, "SetRoot", p.SetRoot(9), api.OK)
	})
	b.drop(4)
	b.drop(2)
	b.text[3], b.root = "", 9
	for what, do := range map[string]func(){
		"nothing at all":               func() {},
		"what is asked":                func() { p.Get(1); p.Root(); p.Free() },
		"errors":                       func() { p.Put(0, nil); p.Put(1, make([]byte, 505)); p.Drop(2); p.SetRoot(-1); p.Begin() },
		"Put of the same":              func() { put(t, p, 1, "old"); put(t, p, 3, "\x00") },
		"Put of others, then the same": func() { put(t, p, 1, "new"); put(t, p, 1, "old") },
		"SetRoot of the same":          func() { p.SetRoot(4); p.SetRoot(9) },
		"New, then Drop":               func() { gives(t, "New", p, 2, 4, 6, 7); drop(t, p, 7, 6, 4, 2) },
		"New, Put, Drop":               func() { gives(t, "New", p, 2); put(t, p, 2, "two"); drop(t, p, 2) },
		"Drop, then New":               func() { drop(t, p, 5, 3); gives(t, "New", p, 3, 5); put(t, p, 5, "old") },
	} {
		ops := d.Ops()
		d.Stop(1)
		change(t, p, do)
		d.Stop(0)
		if d.Ops() != ops {
			t.Errorf("%s: %d Writes and Syncs", what, d.Ops()-ops)
		}
		without(t, what, p)
		b.all(t, what, p)
		b.all(t, what, opened(t, d))
	}
}

// P403

// Behind an ErrDead nothing but Open is promised, but what is called all the same ends (P1).
func TestDead(t *testing.T) {
	for stop := 1; stop <= 10; stop++ {
		d, p, b := many(t, 3)
		d.Stop(stop)
		is(t, "Begin", p.Begin(), api.OK)
		put(t, p, 1, "new")
		is(t, "SetRoot", p.SetRoot(7), api.OK)
		is(t, "the power goes", p.Commit(), api.ErrDead)
		for range 2 {
			p.Get(1)
			p.Root()
			p.Free()
			p.Begin()
			p.New()
			p.Put(1, []byte("x"))
			p.Drop(2)
			p.SetRoot(1)
			p.Commit()
			p.Abort()
		}
		fails(t, "the power is not there", d, api.ErrDead)
		d.Crash(nil)
		if stop > 5 { // the log's head is synced
			b.text[1], b.root = "new", 7
		}
		b.all(t, "stopped at "+strconv.Itoa(stop), opened(t, d))
	}
}

// The power is gone ahead of the Commit: what it answers is redo's error, whatever was changed.
func TestDeadAhead(t *testing.T) {
	for what, do := range map[string]func(p *pager.Pager){
		"Put":     func(p *pager.Pager) { put(t, p, 1, "new") },
		"New":     func(p *pager.Pager) { gives(t, "New", p, 4) },
		"Drop":    func(p *pager.Pager) { drop(t, p, 2) },
		"SetRoot": func(p *pager.Pager) { is(t, "SetRoot", p.SetRoot(7), api.OK) },
	} {
		d, p, b := many(t, 3)
		is(t, "Begin", p.Begin(), api.OK)
		do(p)
		d.Stop(1)
		d.Sync()
		is(t, what, p.Commit(), api.ErrDead)
		d.Crash(nil)
		b.all(t, what, opened(t, d))
	}
}

// P404

// walk is a row of choices; next goes on to the next row, till all were gone through.
type walk struct {
	taken, of []int
	at        int
}

func (w *walk) pick(k int) int {
	if w.at == len(w.taken) {
		w.taken, w.of = append(w.taken, 0), append(w.of, k)
	}
	w.at++
	return w.taken[w.at-1]
}

func (w *walk) next() bool {
	w.at = 0
	for i := len(w.taken) - 1; i >= 0; i-- {
		if w.taken[i]++; w.taken[i] < w.of[i] {
			w.taken, w.of = w.taken[:i+1], w.of[:i+1]
			return true
		}
	}
	return false
}

// crash lays any of n Writes over what was synced.
func (w *walk) crash(d *disk.Disk, n int) {
	bits := w.pick(1 << n)
	keep := make([]bool, n)
	for i := range keep {
		keep[i] = bits>>i&1 == 1
	}
	d.Crash(keep)
}

// broken opens a disk on which the power went in a Commit of n pages; so many times it goes in an Open too.
func broken(t *testing.T, w *walk, d *disk.Disk, n, rounds int) *pager.Pager {
	t.Helper()
	for {
		if d.Dead() {
			w.crash(d, n)
		}
		if rounds > 0 {
			d.Stop(w.pick(n + 4))
		}
		rounds--
		p, e := pager.Open(d)
		d.Stop(0)
		if e == api.OK {
			return p
		}
		is(t, "P404: Open", e, api.ErrDead)
	}
}

// Every way that the power may go in a Commit, in the Open behind it, and so on, whichever Writes stay.
func TestCrash(t *testing.T) {
	for _, c := range []struct {
		what      string
		n, rounds int // how many pages are changed, how many times an Open is broken off
		do        func(p *pager.Pager, b *book)
	}{
		{"on a new disk", 3, 1, func(p *pager.Pager, b *book) {
			p.New()
			p.New()
			p.Put(1, []byte("new"))
			p.SetRoot(1)
			b.take()
			b.take()
			b.text[1], b.root = "new", 1
		}},
		{"a Put", 1, 3, func(p *pager.Pager, b *book) {
			p.Put(2, []byte("new"))
			b.text[2] = "new"
		}},
		{"SetRoot", 1, 2, func(p *pager.Pager, b *book) {
			p.SetRoot(1 << 40)
			b.root = 1 << 40
		}},
		{"New", 2, 2, func(p *pager.Pager, b *book) {
			p.New()
			b.take()
		}},
		{"Drop", 2, 2, func(p *pager.Pager, b *book) {
			p.Drop(1)
			b.drop(1)
		}},
		{"Drop, Put, SetRoot", 3, 1, func(p *pager.Pager, b *book) {
			p.Drop(3)
			p.Put(2, []byte("new"))
			p.SetRoot(4)
			b.drop(3)
			b.text[2], b.root = "new", 4
		}},
		{"New, New, Drop", 4, 0, func(p *pager.Pager, b *book) {
			p.New()
			at, _ := p.New()
			p.Put(at, []byte("new"))
			p.Drop(2)
			b.take()
			b.text[b.take()] = "new"
			b.drop(2)
		}},
	} {
		w := &walk{}
		for more := true; more; more = w.next() {
			d, p, before := crashable(t, c.what == "on a new disk")
			after := before.copied()
			d.Stop(w.pick(2*c.n + 7))
			is(t, "Begin", p.Begin(), api.OK)
			c.do(p, after)
			done := p.Commit() == api.OK
			p = broken(t, w, d, c.n, c.rounds)
			s := after.wholly(p)
			if s != "" && (done || before.wholly(p) != "") {
				t.Fatalf("P404: %s: %v: %s", c.what, w.taken, s)
			}
			if s != "" {
				after = before
			}
			goesOn(t, d, after)
		}
	}
}

// crashable has pages 1 to 5, of which 4 and then 5 were dropped; or it is a new disk.
func crashable(t *testing.T, blank bool) (*disk.Disk, *pager.Pager, *book) {
	t.Helper()
	d := disk.New(408)
	p := opened(t, d)
	b := fresh(408)
	if blank {
		return d, p, b
	}
	change(t, p, func() {
		for range 5 {
			at, _ := p.New()
			s := "old " + strconv.Itoa(at)
			put(t, p, at, s)
			b.text[b.take()] = s
		}
		drop(t, p, 4, 5)
		p.SetRoot(2)
	})
	b.drop(4)
	b.drop(5)
	b.root = 2
	return d, p, b
}

// goesOn tells a fault where a disk that was opened behind a crash is another one behind the next, or a change more is
// not as it must be.
func goesOn(t *testing.T, d *disk.Disk, b *book) {
	t.Helper()
	d.Crash(nil)
	p := opened(t, d)
	b.all(t, "P404: another crash", p)
	change(t, p, func() {
		at, _ := p.New()
		put(t, p, at, "more")
		b.text[b.take()] = "more"
		at = slices.Min(slices.Collect(maps.Keys(b.text)))
		drop(t, p, at)
		b.drop(at)
	})
	d.Crash(nil)
	b.all(t, "P404: a change more", opened(t, d))
}

// A crash where no Commit is on its way, whichever Writes it may be told to keep.
func TestCrashAside(t *testing.T) {
	keep := slices.Repeat([]bool{true}, 50)
	for _, open := range []bool{false, true} {
		d, p, b := crashable(t, false)
		if open {
			is(t, "Begin", p.Begin(), api.OK)
			p.New()
			p.Put(2, []byte("new"))
			p.Drop(3)
			p.SetRoot(5)
		}
		d.Stop(1)
		d.Sync()
		d.Crash(keep)
		b.all(t, "P404: no Commit is on its way", opened(t, d))
		goesOn(t, d, b)
	}
}

// So many pages as a Commit may change, the power going wherever it is thrown, whichever Writes stay.
func TestCrashMany(t *testing.T) {
	for seed := range uint64(60) {
		r := &die{seed}
		d, p, before := many(t, 450)
		after := before.copied()
		is(t, "Begin", p.Begin(), api.OK)
		for range r.of(130) {
			at, _ := p.New()
			put(t, p, at, "new "+strconv.Itoa(at))
			after.text[after.take()] = "new " + strconv.Itoa(at)
			at = 1 + r.of(450)
			if p.Put(at, []byte("put")) == api.OK {
				after.text[at] = "put"
			}
			at = 1 + r.of(450)
			if p.Drop(at) == api.OK {
				after.drop(at)
			}
		}
		p.SetRoot(int(seed))
		after.root = int(seed)
		d.Stop(1 + r.of(800))
		done := p.Commit() == api.OK
		for rounds := 0; ; rounds++ {
			d.Crash(r.keep(400))
			if rounds < 3 {
				d.Stop(1 + r.of(400))
			}
			q, e := pager.Open(d)
			d.Stop(0)
			if e != api.OK {
				continue
			}
			if s := after.wholly(q); s != "" && (done || before.wholly(q) != "") {
				t.Errorf("P404: seed %d: %s", seed, s)
			}
			break
		}
	}
}

// die throws.
type die struct{ n uint64 }

func (d *die) of(k int) int {
	d.n = d.n*6364136223846793005 + 1442695040888963407
	return int(d.n>>33) % k
}

func (d *die) keep(n int) []bool {
	keep := make([]bool, d.of(n+3))
	some := 1 + d.of(8)
	for i := range keep {
		keep[i] = d.of(8) < some
	}
	return keep
}

// P2

func TestHandedIn(t *testing.T) {
	d := disk.New(410)
	p := opened(t, d)
	room := bytes.Repeat([]byte{7}, 600)
	before := slices.Clone(room)
	is(t, "Begin", p.Begin(), api.OK)
	gives(t, "a new disk", p, 1, 2)
	is(t, "Put", p.Put(1, room[:3]), api.OK)
	is(t, "Put", p.Put(2, room[:504]), api.OK)
	is(t, "Put of too many", p.Put(1, room[:505]), api.ErrLong)
	is(t, "Put of no page", p.Put(3, room[:5]), api.ErrArg)
	if !bytes.Equal(room, before) {
		t.Error("P2: the bytes, or their room, were changed")
	}
	for i := range room {
		room[i] = 9
	}
	got(t, "P2: they are not kept", p, 1, "\x07\x07\x07")
	is(t, "Commit", p.Commit(), api.OK)
	for i := range room {
		room[i] = 8
	}
	got(t, "P2: nor behind a Commit", p, 2, strings.Repeat("\x07", 504))
	got(t, "P2: nor on the disk", opened(t, d), 1, "\x07\x07\x07")
	if bytes.Count(room, []byte{8}) != len(room) {
		t.Error("P2: the bytes were changed behind the call")
	}
}

func TestAnswersAreNew(t *testing.T) {
	d := disk.New(410)
	p := opened(t, d)
	spoil := func(at int) {
		t.Helper()
		for range 2 {
			b, e := p.Get(at)
			is(t, "Get", e, api.OK)
			b = b[:cap(b)]
			for i := range b {
				b[i] = '?'
			}
		}
	}
	is(t, "Begin", p.Begin(), api.OK)
	gives(t, "a new disk", p, 1, 2)
	put(t, p, 1, "one")
	spoil(1)
	spoil(2)
	got(t, "P2: put in the transaction", p, 1, "one")
	got(t, "P2: taken in the transaction", p, 2, "")
	is(t, "Commit", p.Commit(), api.OK)
	spoil(1)
	spoil(2)
	got(t, "P2: committed", p, 1, "one")
	got(t, "P2: committed", p, 2, "")
	is(t, "Begin", p.Begin(), api.OK)
	spoil(1)
	is(t, "Commit", p.Commit(), api.OK)
	got(t, "P2: read in a transaction", p, 1, "one")
	got(t, "P2: on the disk", opened(t, d), 1, "one")
	a, _ := p.Get(1)
	put := func() { is(t, "Put", p.Put(1, []byte("new")), api.OK) }
	change(t, p, put)
	if string(a) != full("one") {
		t.Error("P2: an answer was changed by a later call")
	}
}

// P3, P7 and the promises' own words

// game is a pager, and what it must tell: of the last Commit, and of the transaction, if one is open.
type game struct {
	r        *die
	d        *disk.Disk
	p        *pager.Pager
	was, now *book // now nil: none is open
	told     []string
	wrong    string
}

// tell tells an answer, and whether it is the one that must be.
func (g *game) tell(what string, n int, e api.Errno, want int, f api.Errno) {
	said := what + " " + strconv.Itoa(n) + " " + e.Error()
	g.told = append(g.told, said)
	if (n != want || e != f) && g.wrong == "" {
		g.wrong = said + ", not " + strconv.Itoa(want) + " " + f.Error()
	}
}

// fault is the error of what changes a page in use.
func (g *game) fault(at int) api.Errno {
	if g.now == nil {
		return api.ErrBusy
	}
	if _, there := g.now.text[at]; !there {
		return api.ErrArg
	}
	return api.OK
}

func (g *game) put() {
	at, s := g.r.of(g.was.last+3)-1, strings.Repeat(string(rune('a'+g.r.of(26))), g.r.of(508))
	want := g.fault(at)
	if want == api.OK && len(s) > 504 {
		want = api.ErrLong
	}
	g.tell("Put", 0, g.p.Put(at, []byte(s)), 0, want)
	if want == api.OK {
		g.now.text[at] = s
	}
}

func (g *game) take() {
	at, want := 0, api.ErrBusy
	if g.now != nil {
		at, want = g.now.take(), api.OK
		if at == 0 {
			want = api.ErrFull
		}
	}
	n, e := g.p.New()
	g.tell("New", n, e, at, want)
}

func (g *game) drop() {
	at := g.r.of(g.was.last+3) - 1
	want := g.fault(at)
	g.tell("Drop", 0, g.p.Drop(at), 0, want)
	if want == api.OK {
		g.now.drop(at)
	}
}

func (g *game) root() {
	at, want := g.r.of(100)-5, api.OK
	switch {
	case g.now == nil:
		want = api.ErrBusy
	case at < 0:
		want = api.ErrArg
	default:
		g.now.root = at
	}
	g.tell("SetRoot", 0, g.p.SetRoot(at), 0, want)
}

func (g *game) begin() {
	want := api.OK
	if g.now != nil {
		want = api.ErrBusy
	} else {
		g.now = g.was.copied()
	}
	g.tell("Begin", 0, g.p.Begin(), 0, want)
}

// commit may be broken off, and the Open behind it too.
func (g *game) commit() {
	if g.now == nil {
		g.tell("Commit", 0, g.p.Commit(), 0, api.ErrBusy)
		return
	}
	stop := max(g.r.of(60)-20, 0)
	g.d.Stop(stop)
	e := g.p.Commit()
	if !g.d.Dead() {
		g.d.Stop(0)
		g.tell("Commit", 0, e, 0, api.OK)
		g.was, g.now = g.now, nil
		return
	}
	g.tell("Commit", 0, e, 0, api.ErrDead)
	old, late := g.was, g.now
	g.open()
	if late.against(g.p) == "" {
		g.was = late
	} else {
		g.was = old
	}
}

// open opens the disk behind a crash.
func (g *game) open() {
	for e := api.ErrDead; e != api.OK; {
		g.d.Crash(g.r.keep(30))
		g.d.Stop(max(g.r.of(40)-15, 0))
		g.p, e = pager.Open(g.d)
		g.d.Stop(0)
		g.told = append(g.told, "Open "+e.Error())
	}
	g.now = nil
}

// look holds all that can be asked against the books.
func (g *game) look() {
	b, s := g.was, ""
	if g.now != nil {
		b = g.now
		s = b.against(g.p)
	} else {
		s = b.wholly(g.p)
	}
	if s != "" && g.wrong == "" {
		g.wrong = s
	}
	g.told = append(g.told, strconv.Itoa(g.p.Root()), strconv.Itoa(g.p.Free()), strconv.Itoa(g.d.Ops()))
}

// play does any calls, and tells what they answered, and what was wrong of it.
func play(seed uint64) (string, string) {
	r := &die{seed}
	n := 403 + r.of(30)
	g := &game{r: r, d: disk.New(n), was: fresh(n)}
	g.open()
	for range 120 {
		switch g.r.of(13) {
		case 0, 1:
			g.begin()
		case 2:
			g.commit()
		case 3:
			if g.r.of(3) == 0 {
				g.p.Abort()
				g.now = nil
			}
		case 4:
			if g.r.of(4) == 0 {
				g.open()
			}
		case 5:
			g.root()
		case 6, 7:
			g.drop()
		case 8, 9:
			g.put()
		default:
			g.take()
		}
		g.look()
	}
	return strings.Join(g.told, "\n"), g.wrong
}

// FuzzPager: P1, P3, P401, P402, P404: any calls, twice the same way, and as the books have it.
func FuzzPager(f *testing.F) {
	for seed := range uint64(400) {
		f.Add(seed)
	}
	f.Fuzz(func(t *testing.T, seed uint64) {
		told, wrong := play(seed)
		if wrong != "" {
			t.Errorf("%d: %s", seed, wrong)
		}
		again, _ := play(seed)
		if told != again {
			t.Errorf("P3: %d", seed)
		}
	})
}

// FuzzAnyDisk: P1, P8: of a disk that others wrote too all that is promised is that every call ends.
func FuzzAnyDisk(f *testing.F) {
	num := func(l ...int) []byte {
		var b []byte
		for _, n := range l {
			b = binary.LittleEndian.AppendUint64(b, uint64(n))
		}
		return b
	}
	f.Add(num(0, 0), num(0), num(0))
	f.Add(num(1, -5), num(-2), num(-1))
	f.Add(num(2, math.MinInt), num(-2), num(-3))
	f.Add(num(-1, 0), num(0), num(0))
	f.Add(num(-2, 0), num(0), num(0))
	f.Add(num(8, 0), num(0), num(0))
	f.Add(num(9, 0), num(0), num(0))
	f.Add(num(10, 0), num(0), num(0))
	f.Add(num(math.MaxInt, 0), num(math.MinInt), num(math.MaxInt))
	f.Add(num(0, 0), num(math.MaxInt-1), num(0))
	f.Add(num(0, 0), num(-1), num(0))
	f.Add(bytes.Repeat([]byte{255}, 512), bytes.Repeat([]byte{255}, 512), bytes.Repeat([]byte{255}, 512))
	f.Fuzz(func(t *testing.T, zero, one, two []byte) {
		d := disk.New(411)
		d.Write(401, zero)
		d.Write(402, one)
		d.Write(403, two)
		d.Sync()
		p, e := pager.Open(d)
		if (p == nil) == (e == api.OK) {
			t.Fatalf("P4: %v", e)
		}
		if e != api.OK {
			return
		}
		for range 2 {
			p.Begin()
			for at := -1; at < 12; at++ {
				p.Get(at)
				p.Drop(at)
				p.New()
				p.Put(at, []byte("x"))
			}
			p.SetRoot(p.Root() + p.Free())
			p.Commit()
		}
		if p, e := pager.Open(d); e == api.OK {
			p.Get(1)
		}
	})
}

func TestSideBySide(t *testing.T) {
	a, b := disk.New(410), disk.New(410)
	p, q := opened(t, a), opened(t, b)
	is(t, "Begin", p.Begin(), api.OK)
	gives(t, "P7", p, 1, 2)
	put(t, p, 1, "one")
	fresh(410).all(t, "P7", q)
	is(t, "P7: Begin", q.Begin(), api.OK)
	gives(t, "P7", q, 1)
	put(t, q, 1, "other")
	is(t, "Commit", p.Commit(), api.OK)
	q.Abort()
	got(t, "P7", p, 1, "one")
	fresh(410).all(t, "P7", opened(t, b))
	var all sync.WaitGroup
	for seed := range uint64(8) {
		want, _ := play(seed)
		for range 2 {
			all.Go(func() {
				if told, _ := play(seed); told != want {
					t.Error("P7: side by side")
				}
			})
		}
	}
	all.Wait()
}
