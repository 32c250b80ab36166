package dict_test

import (
	"math"
	"slices"
	"strconv"
	"strings"
	"sync"
	"testing"

	"triad/api"
	"triad/btree"
	"triad/code"
	"triad/dict"
	"triad/disk"
	"triad/pager"
	"triad/term"
)

// is tells a fault where an error is another one.
func is(t *testing.T, what string, got, want api.Errno) {
	t.Helper()
	if got != want {
		t.Errorf("%s: %v, not %v", what, got, want)
	}
}

// opened are a disk's pages.
func opened(t *testing.T, d *disk.Disk) *pager.Pager {
	t.Helper()
	p, e := pager.Open(d)
	if e != api.OK {
		t.Fatalf("Open: %v", e)
	}
	return p
}

// begun are the pages of a new disk, with a transaction open.
func begun(t *testing.T, sectors int) *pager.Pager {
	t.Helper()
	return begunOn(t, disk.New(sectors))
}

// begunOn are a disk's pages, with a transaction open.
func begunOn(t *testing.T, d *disk.Disk) *pager.Pager {
	t.Helper()
	p := opened(t, d)
	is(t, "Begin", p.Begin(), api.OK)
	return p
}

// book is a dict, and the terms that it must have: the one of number 1 first.
type book struct {
	p *pager.Pager
	d dict.Dict
	l []api.Term
}

// blank is a book of no terms.
func blank(t *testing.T, p *pager.Pager) *book {
	t.Helper()
	d, e := dict.New(p)
	if e != api.OK || d.Last != 0 {
		t.Fatalf("New: %+v, %v", d, e)
	}
	return &book{p: p, d: d}
}

// filled is a book of such terms, alone on a new disk of 3000 sectors, its transaction open.
func filled(t *testing.T, l ...api.Term) *book {
	t.Helper()
	b := blank(t, begun(t, 3000))
	b.put(t, l...)
	return b
}

// put puts terms with OK: new ones, or ones that have their numbers.
func (b *book) put(t *testing.T, l ...api.Term) {
	t.Helper()
	for _, x := range l {
		want := 1 + slices.Index(b.l, x)
		if want == 0 {
			b.l = append(b.l, x)
			want = len(b.l)
		}
		d, id, e := dict.Put(b.p, b.d, x)
		if id != want || e != api.OK || d.Last != len(b.l) {
			t.Fatalf("P701: Put %s: %d, %v, not %d; Last %d, not %d", show(x), id, e, want, d.Last, len(b.l))
		}
		b.d = d
	}
}

// against tells the first fault of a dict; nothing, if there is none.
func against(p *pager.Pager, d dict.Dict, l []api.Term) string {
	if d.Last != len(l) {
		return "Last " + strconv.Itoa(d.Last) + ", not " + strconv.Itoa(len(l))
	}
	for i, x := range l {
		if id, e := dict.Find(p, d, x); id != i+1 || e != api.OK {
			return "Find " + show(x) + ": " + strconv.Itoa(id) + ", " + e.Error() + ", not " + strconv.Itoa(i+1)
		}
		if y, e := dict.Get(p, d, i+1); y != x || e != api.OK {
			return "Get " + strconv.Itoa(i+1) + ": " + show(y) + ", " + e.Error() + ", not " + show(x)
		}
	}
	for _, id := range beyond(len(l)) {
		if x, e := dict.Get(p, d, id); x != (api.Term{}) || e != api.ErrNone {
			return "Get " + strconv.Itoa(id) + ": " + show(x) + ", " + e.Error()
		}
	}
	return ""
}

// beyond are numbers that are not given, where those up to last are.
func beyond(last int) []int {
	l := []int{0, -1, -2, -256, math.MinInt, math.MinInt + 1, last + 1, last + 2, last + 256, last + 1<<16, math.MaxInt}
	for at := 16; at < 64; at += 8 { // a number's bytes the other way round, or its lowest alone
		l = append(l, 1<<at, last<<at, 1<<at+1)
	}
	return slices.DeleteFunc(l, func(id int) bool { return 1 <= id && id <= last })
}

// shows tells a fault where a dict does not have what it must.
func (b *book) shows(t *testing.T, what string) {
	t.Helper()
	if s := against(b.p, b.d, b.l); s != "" {
		t.Errorf("%s: %s", what, s)
	}
}

// lacks tells a fault where a term is found.
func (b *book) lacks(t *testing.T, l ...api.Term) {
	t.Helper()
	for _, x := range l {
		if id, e := dict.Find(b.p, b.d, x); id != 0 || e != api.ErrNone {
			t.Errorf("P701: Find %s: %d, %v", show(x), id, e)
		}
	}
}

// refused tells a fault where Put answers another error, or anything beside it.
func (b *book) refused(t *testing.T, x api.Term, want api.Errno) {
	t.Helper()
	if d, id, e := dict.Put(b.p, b.d, x); d != (dict.Dict{}) || id != 0 || e != want {
		t.Errorf("P701: Put %s: %+v, %d, %v, not %v", show(x), d, id, e, want)
	}
}

// show tells a term for a fault.
func show(t api.Term) string {
	return strconv.Itoa(t.Kind) + " " + strconv.Quote(clip(t.S)) + " " + strconv.Quote(clip(t.Lang)) + " " + strconv.Quote(clip(t.Type))
}

func clip(s string) string {
	if len(s) <= 24 {
		return s
	}
	return s[:10] + ".." + s[len(s)-10:]
}

func x(n int) string { return strings.Repeat("x", n) }

func lit(s string) api.Term { return api.Term{Kind: api.Literal, S: s} }

func iri(s string) api.Term { return api.Term{Kind: api.Iri, S: s} }

func node(s string) api.Term { return api.Term{Kind: api.Blank, S: s} }

func lang(s, l string) api.Term { return api.Term{Kind: api.Literal, S: s, Lang: l} }

func typed(s, y string) api.Term { return api.Term{Kind: api.Literal, S: s, Type: y} }

// digits are those of a number, as a text of so many bytes, in front of which they all share.
func digits(i, long int) string {
	s := strconv.Itoa(100000 + i)[1:]
	return x(long-len(s)) + s
}

// one is the i-th of terms that are all others, of all kinds.
func one(i int) api.Term {
	s := digits(i/6, 5+i%16)
	switch i % 6 {
	case 0:
		return iri(s)
	case 1:
		return node(s)
	case 2:
		return lit(s)
	case 3:
		return lang(s, "en-"+x(i/6%6))
	case 4:
		return typed(s, api.XInt)
	}
	return typed(api.XBool, s)
}

// long is the i-th of the longest terms that may be.
func long(i int) api.Term { return typed(digits(i, api.MaxTerm), x(api.MaxTerm)) }

// many are the first n of these, as of says, in an order.
func many(n int, of func(i int) api.Term, order func(i, n int) int) []api.Term {
	var l []api.Term
	for i := range n {
		l = append(l, of(order(i, n)))
	}
	return l
}

// Orders in which 0 to n-1 may come.

func rising(i, _ int) int { return i }

func falling(i, n int) int { return n - 1 - i }

// mixed needs an n that 7919 (a prime) does not divide.
func mixed(i, n int) int { return i * 7919 % n }

// alike are terms of which each differs from others in one part alone, or in where one part ends.
func alike() []api.Term {
	return []api.Term{
		lit("a"), lit(""), iri("a"), node("a"), lang("a", "en"), typed("a", "en"), lang("a", "e"), lang("a", "en-"), typed("a", "e"), typed("a", "en-"),
		lang("", "a"), typed("", "a"), lang("", "en"), typed("", "en"), lit("aen"), lit("a@en"), lit("a^^<en>"), lit(`"a"@en`), lit(`"a"^^<en>`), lit("<a>"), lit("_:a"), iri("_:a"),
		lit("A"), iri("A"), node("A"), lit("aa"), iri("aa"), node("aa"), lit("a\x00"), lit("\x00a"), lit("\x00"), lit("\x00\x00"), lit("\xff"), lit("é"), iri("é"),
		lit("1"), iri("1"), node("1"), typed("1", api.XInt), typed("1", api.XDec), typed("01", api.XInt), lit("a\n"), lit(`a\n`), lit(" a"), lit("a "),
		lit("\x03\x01\x00a\x00\x00\x00\x00"), lit("\x01\x00\x00\x00\x00\x00\x00\x00"),
	}
}

// longest are the longest terms that may be, and ones that are a byte shorter.
func longest() []api.Term {
	all := strings.Repeat("\xff", api.MaxTerm)
	return []api.Term{
		typed(x(60), x(60)), typed(x(60), x(59)), typed(x(59), x(60)), typed(all, all), typed(strings.Repeat("\x00", 60), all),
		lang(x(60), x(8)), lang(x(60), x(7)), lang(x(59), x(8)), lang(all, "a-------"),
		lit(x(60)), lit(x(59)), lit(all), iri(x(60)), iri(x(59)), iri(all), node(x(20)), node(x(19)), typed("", x(60)), lang("", x(8)),
	}
}

// wrong are terms that may not be, and term.Check's error of each.
func wrong() map[api.Term]api.Errno {
	return map[api.Term]api.Errno{
		{}: api.ErrKind, {S: "a"}: api.ErrKind, {Kind: api.Var, S: "a"}: api.ErrKind, {Kind: -1, S: "a"}: api.ErrKind, {Kind: 257, S: "a"}: api.ErrKind, {Kind: 259}: api.ErrKind, {Kind: math.MinInt}: api.ErrKind, {Kind: 255, S: x(61)}: api.ErrKind,
		iri(x(61)): api.ErrLong, lit(x(61)): api.ErrLong, lit(x(65536)): api.ErrLong, typed("a", x(61)): api.ErrLong, lang("a", x(9)): api.ErrLong, {Kind: api.Blank, S: "a", Lang: x(9)}: api.ErrLong, node(x(61)): api.ErrLong, lit(strings.Repeat("é", 31)): api.ErrLong,
		iri(""): api.ErrArg, iri("a b"): api.ErrArg, iri("a\x00"): api.ErrArg, {Kind: api.Iri, S: "a", Lang: "en"}: api.ErrArg, {Kind: api.Iri, S: "a", Type: "b"}: api.ErrArg,
		node(""): api.ErrArg, node("-"): api.ErrArg, node(x(21)): api.ErrArg, {Kind: api.Blank, S: "a", Type: "b"}: api.ErrArg,
		{Kind: api.Literal, Lang: "en", Type: "a"}: api.ErrArg, lang("a", "EN"): api.ErrArg, lang("a", "-"): api.ErrArg, typed("a", ">"): api.ErrArg, {Kind: api.Literal, S: "a", Lang: x(8), Type: x(60)}: api.ErrArg,
	}
}

// P701: New

func TestNew(t *testing.T) {
	p := begun(t, 500)
	is(t, "SetRoot", p.SetRoot(77), api.OK)
	free := p.Free()
	b := blank(t, p)
	b.shows(t, "an empty one")
	b.lacks(t, alike()...)
	b.lacks(t, longest()...)
	if p.Root() != 77 || p.Free() != free-2 {
		t.Errorf("New: Root %d, %d pages", p.Root(), free-p.Free())
	}
	for what, root := range map[string]int{"Terms": b.d.Terms, "Ids": b.d.Ids} {
		n, e := btree.Count(p, root)
		if n != 0 || e != api.OK {
			t.Errorf("New: %s: %d, %v", what, n, e)
		}
	}
	c := blank(t, p)
	c.put(t, lit("c"), lit("b"))
	b.shows(t, "P7: an empty one beside another")
	b.put(t, lit("b"))
	c.shows(t, "P7: beside one that was empty")
	b.shows(t, "P7: beside another")
}

// busy tells a fault where New is not refused for want of a transaction.
func busy(t *testing.T, what string, p *pager.Pager) {
	t.Helper()
	free := p.Free()
	d, e := dict.New(p)
	is(t, what+": New", e, api.ErrBusy)
	if d != (dict.Dict{}) || p.Free() != free {
		t.Errorf("P4, P5: %s: New: %+v, Free %d, not %d", what, d, p.Free(), free)
	}
}

func TestNewWithout(t *testing.T) {
	for _, sectors := range []int{403, 404, 405, 500} {
		d := disk.New(sectors)
		p := opened(t, d)
		busy(t, "a new disk", p)
		is(t, "Begin", p.Begin(), api.OK)
		for p.Free() > 0 {
			p.New()
		}
		p.Abort()
		busy(t, "behind an Abort", p)
		is(t, "Begin", p.Begin(), api.OK)
		is(t, "Commit", p.Commit(), api.OK)
		busy(t, "behind a Commit", p)
		if d.Ops() != 0 {
			t.Errorf("P5: %d Writes and Syncs", d.Ops())
		}
	}
}

// Where there is no page for both trees, none is taken, and what comes next is as it would have been.
func TestNewFull(t *testing.T) {
	for _, room := range []int{0, 1} {
		for _, taken := range []int{0, 1, 2, 40} {
			d := disk.New(402 + taken + room + 1)
			p := opened(t, d)
			is(t, "Begin", p.Begin(), api.OK)
			for range taken + 1 {
				p.New()
			}
			is(t, "Put", p.Put(1, []byte("one")), api.OK)
			for range 2 {
				x, e := dict.New(p)
				is(t, "New", e, api.ErrFull)
				if x != (dict.Dict{}) || p.Free() != room {
					t.Errorf("P4, P5: New: %+v, Free %d, not %d", x, p.Free(), room)
				}
			}
			if got, _ := p.Get(1); string(got[:4]) != "one\x00" {
				t.Errorf("P5: page 1: %q", got[:4])
			}
			is(t, "Commit", p.Commit(), api.OK)
			busy(t, "P6: ErrBusy, not ErrFull", p)
			p = opened(t, d)
			is(t, "Begin", p.Begin(), api.OK)
			if p.Free() != room {
				t.Errorf("P5: opened again: Free %d, not %d", p.Free(), room)
			}
			if at, _ := p.New(); room == 1 && at != taken+2 {
				t.Errorf("P5: %d, not the page that was free", at)
			}
			p.Abort()
			is(t, "Begin", p.Begin(), api.OK)
			is(t, "Drop", p.Drop(1), api.OK)
			_, e := dict.New(p)
			is(t, "New, when a page is free again", e, []api.Errno{api.ErrFull, api.OK}[room])
		}
	}
}

// P701, P702: Put, Find, Get

func TestFirst(t *testing.T) {
	for _, y := range slices.Concat(alike(), longest()) {
		b := filled(t, y)
		b.shows(t, "the first term")
		b.put(t, y, y)
		b.shows(t, "put again")
		if b.l[0] != y || b.d.Last != 1 {
			t.Errorf("P701: the first term: %d", b.d.Last)
		}
		d, id, e := dict.Put(b.p, b.d, y)
		if d != b.d || id != 1 || e != api.OK {
			t.Errorf("P701: put again: %+v, %d, %v", d, id, e)
		}
	}
}

func TestAlike(t *testing.T) {
	l := slices.Concat(alike(), longest())
	for _, order := range []func(i, n int) int{rising, falling, mixed} {
		b := blank(t, begun(t, 3000))
		for i := range l {
			b.lacks(t, l[order(i, len(l))])
			b.put(t, l[order(i, len(l))])
			b.put(t, l[order(i/2, len(l))])
			for k := i + 1; k < len(l); k++ {
				b.lacks(t, l[order(k, len(l))])
			}
		}
		b.shows(t, "terms that are alike")
	}
	for i, y := range l {
		for k, z := range l[:i] {
			b := blank(t, begun(t, 420))
			b.put(t, y)
			b.lacks(t, z)
			b.put(t, z, y)
			if b.d.Last != 2 {
				t.Errorf("P702: %d, %d: %d", i, k, b.d.Last)
			}
		}
	}
}

func TestMany(t *testing.T) {
	for what, of := range map[string]func(i int) api.Term{"of all kinds": one, "the longest": long} {
		for _, order := range []func(i, n int) int{rising, falling, mixed} {
			n := 700
			l := many(n, of, order)
			b := filled(t, l...)
			b.shows(t, what)
			free := b.p.Free()
			b.put(t, l...)
			slices.Reverse(l)
			b.put(t, l...)
			if b.d.Last != n || b.p.Free() != free {
				t.Errorf("P701: %s: put again: %d, %d pages", what, b.d.Last, free-b.p.Free())
			}
			b.lacks(t, of(n), of(n+1), of(n+6))
			b.shows(t, what+", put again")
			used := 2598 - b.p.Free()
			if used < 20 || used > 2*(1+2*n) {
				t.Errorf("%s: %d pages", what, used)
			}
		}
	}
}

// A term's number stays as it was given, whatever comes behind it; the trees have each term once.
func TestBehind(t *testing.T) {
	b := filled(t)
	for i := range 400 {
		b.put(t, one(mixed(i, 400)))
		b.put(t, one(mixed(0, 400)), one(mixed(i/2, 400)), one(mixed(i, 400)))
		if i%50 == 0 {
			b.shows(t, "on the way")
		}
	}
	for what, root := range map[string]int{"Terms": b.d.Terms, "Ids": b.d.Ids} {
		if n, e := btree.Count(b.p, root); n != 400 || e != api.OK {
			t.Errorf("P702: %s: %d, %v", what, n, e)
		}
	}
	b.shows(t, "at the end")
}

// Wrong inputs

func TestWrong(t *testing.T) {
	for _, n := range []int{0, 1, 200} {
		b := filled(t, many(n, one, mixed)...)
		was, free := b.d, b.p.Free()
		for y, want := range wrong() {
			b.refused(t, y, want)
			if id, e := dict.Find(b.p, b.d, y); id != 0 || e != want {
				t.Errorf("P701: Find %s: %d, %v, not %v", show(y), id, e, want)
			}
			if b.d != was || b.p.Free() != free {
				t.Errorf("P5: %s: %+v, %d pages", show(y), b.d, free-b.p.Free())
			}
			b.put(t, one(n))
			b.put(t, one(n/2))
			free = b.p.Free()
			was = b.d
		}
		b.put(t, one(n+1), one(n+2))
		b.shows(t, "P702: no gap behind what was refused")
		is(t, "Commit", b.p.Commit(), api.OK)
		for y, want := range wrong() {
			b.refused(t, y, want)
		}
		b.shows(t, "P6: no transaction: Check's error goes ahead")
	}
}

func TestNone(t *testing.T) {
	b := filled(t)
	b.shows(t, "no number of an empty one")
	for i := range 300 {
		b.lacks(t, one(i))
		b.put(t, one(i))
		if i%29 == 0 {
			b.shows(t, "no number beyond the last")
		}
		for _, id := range []int{0, -1, i + 2} {
			if y, e := dict.Get(b.p, b.d, id); y != (api.Term{}) || e != api.ErrNone {
				t.Errorf("P701: %d terms: Get %d: %s, %v", i+1, id, show(y), e)
			}
		}
	}
	var none []api.Term
	for i := range 300 {
		y := one(i)
		none = append(none, one(i+300), lit(y.S+"x"), iri(y.S+"/"), lang(y.S, "zz"), typed(y.S, "z"))
	}
	b.lacks(t, none...)
}

func TestWithout(t *testing.T) {
	for _, n := range []int{0, 1, 200} {
		d := disk.New(1500)
		p := opened(t, d)
		is(t, "Begin", p.Begin(), api.OK)
		b := blank(t, p)
		b.put(t, many(n, one, mixed)...)
		is(t, "Commit", p.Commit(), api.OK)
		ops, free := d.Ops(), p.Free()
		for what, do := range map[string]func(){
			"behind a Commit": func() {},
			"behind an Abort": func() {
				is(t, "Begin", b.p.Begin(), api.OK)
				b.p.Abort()
			},
			"behind an Open": func() { b.p = opened(t, d) },
		} {
			do()
			for i := range 20 {
				b.refused(t, one(n+i), api.ErrBusy)
				b.lacks(t, one(n+i))
			}
			b.put(t, b.l...) // these have their numbers: nothing is changed
			b.shows(t, what)
			if d.Ops() != ops || b.p.Free() != free || b.p.Root() != 0 {
				t.Errorf("P5: %s: %d Writes and Syncs, Free %d, Root %d", what, d.Ops()-ops, b.p.Free(), b.p.Root())
			}
		}
		is(t, "Begin", b.p.Begin(), api.OK)
		b.put(t, one(n))
		b.shows(t, "in a transaction")
	}
}

// Behind an ErrFull an Abort brings all back, whichever of the trees had no page.
func TestFull(t *testing.T) {
	for _, of := range []func(i int) api.Term{one, long} {
		for sectors := 404; sectors < 440; sectors++ {
			p := begun(t, sectors)
			b := blank(t, p)
			is(t, "Commit", p.Commit(), api.OK)
			n := 0
			for ; ; n++ {
				if n > 2000 {
					t.Fatalf("%d sectors: no ErrFull", sectors)
				}
				is(t, "Begin", p.Begin(), api.OK)
				y := of(mixed(n, 2000))
				if _, _, e := dict.Put(p, b.d, y); e != api.OK {
					p.Abort()
					is(t, "Begin", p.Begin(), api.OK)
					b.refused(t, y, api.ErrFull)
					p.Abort()
					is(t, "Begin", p.Begin(), api.OK)
					b.put(t, b.l[n/2])
					p.Abort()
					break
				}
				p.Abort()
				is(t, "Begin", p.Begin(), api.OK)
				b.put(t, y)
				is(t, "Commit", p.Commit(), api.OK)
			}
			b.shows(t, "given up")
			b.lacks(t, of(mixed(n, 2000)))
			if n < (sectors-402)/4 {
				t.Errorf("ErrFull behind %d terms on %d pages", n, sectors-402)
			}
		}
	}
}

// On a disk that is dead there is nothing to be had, and all ends.
func TestDead(t *testing.T) {
	d := disk.New(1500)
	p := opened(t, d)
	is(t, "Begin", p.Begin(), api.OK)
	b := blank(t, p)
	b.put(t, many(100, one, mixed)...)
	is(t, "Commit", p.Commit(), api.OK)
	is(t, "Begin", p.Begin(), api.OK)
	d.Stop(1)
	d.Sync()
	b.refused(t, one(100), api.ErrDead)
	b.refused(t, one(1), api.ErrDead)
	b.refused(t, api.Term{}, api.ErrKind)
	if id, e := dict.Find(p, b.d, one(1)); id != 0 || e != api.ErrDead {
		t.Errorf("Find: %d, %v", id, e)
	}
	if y, e := dict.Get(p, b.d, 1); y != (api.Term{}) || e != api.ErrDead {
		t.Errorf("Get: %s, %v", show(y), e)
	}
	d.Crash(nil)
	b.p = opened(t, d)
	b.shows(t, "the power is there again")
}

// Transactions

// A dict is plain numbers: whoever keeps them has it, behind a Commit, an Open, a crash.
func TestCommitted(t *testing.T) {
	d := disk.New(2000)
	b := blank(t, begunOn(t, d))
	is(t, "Commit", b.p.Commit(), api.OK)
	for round := range 8 {
		is(t, "Begin", b.p.Begin(), api.OK)
		was := *b
		b.put(t, many(60, func(i int) api.Term { return one(round*60 + i) }, mixed)...)
		b.shows(t, "not committed yet")
		if s := against(opened(t, d), was.d, was.l); s != "" {
			t.Errorf("not committed, opened again: %s", s)
		}
		if round%3 == 2 {
			b.p.Abort()
			given := b.l[len(was.l):]
			*b = was
			b.shows(t, "given up")
			b.lacks(t, given...)
			is(t, "Begin", b.p.Begin(), api.OK)
			b.put(t, given[7], given[3])
			b.shows(t, "P702: numbers that were given up are given")
		}
		is(t, "Commit", b.p.Commit(), api.OK)
		b.shows(t, "committed")
		d.Crash(nil)
		b.p = opened(t, d)
		b.d = dict.Dict{Terms: b.d.Terms, Ids: b.d.Ids, Last: b.d.Last}
		b.shows(t, "opened again")
		b.lacks(t, one(5000), one(5001))
	}
}

// One Commit has room for the terms of a change of 60 triples, the longest ones, behind others: the limit of 400 pages
// is for all that a store has.
func TestCommitRoom(t *testing.T) {
	for _, n := range []int{0, 100, 220} {
		for _, order := range []func(i, n int) int{rising, falling, mixed} {
			l := many(400, long, order)
			d := disk.New(3000)
			b := blank(t, begunOn(t, d))
			b.put(t, l[:n/2]...)
			is(t, "Commit", b.p.Commit(), api.OK)
			is(t, "Begin", b.p.Begin(), api.OK)
			b.put(t, l[n/2:n]...)
			is(t, "Commit", b.p.Commit(), api.OK)
			is(t, "Begin", b.p.Begin(), api.OK)
			ops := d.Ops()
			b.put(t, l[n:n+180]...)
			is(t, "Commit", b.p.Commit(), api.OK)
			if wrote := (d.Ops() - ops) / 2; wrote > 250 {
				t.Errorf("%d terms: 180 more: some %d pages", n, wrote)
			}
			b.shows(t, "180 of the longest terms in one transaction")
		}
	}
}

// P3, P7: any calls, against plain lists

// die throws numbers.
type die uint64

func (d *die) of(k int) int {
	*d = *d*6364136223846793005 + 1442695040888963407
	return int(uint64(*d) >> 33 % uint64(k))
}

// text throws one of few letters, so that the same ones come again, and now and then a long one.
func (d *die) text(letters string, most int) string {
	n := d.of(3)
	if d.of(8) == 0 {
		n = max(most-1+d.of(3), 0)
	}
	var b []byte
	for range n {
		b = append(b, letters[d.of(len(letters))])
	}
	return string(b)
}

// any throws a term that may be or not.
func (d *die) any() api.Term {
	t := api.Term{Kind: d.of(6) - 1, S: d.text("abc_\x00\xff", 60)}
	if d.of(3) == 0 {
		t.Lang = d.text("ab-", 8)
	}
	if d.of(3) == 0 {
		t.Type = d.text("ab:/ ", 60)
	}
	return t
}

// game is a dict, and what it must have: as it was committed last, and as it is.
type game struct {
	r         *die
	d         *disk.Disk
	p         *pager.Pager
	was, now  dict.Dict
	old, l    []api.Term
	open      bool
	told, bad []string
}

func (g *game) tell(what string, e api.Errno, right bool) {
	said := what + " " + e.Error()
	g.told = append(g.told, said)
	if !right {
		g.bad = append(g.bad, said)
	}
}

// term throws one: any, one of hundreds, or one that is there.
func (g *game) term() api.Term {
	switch n := g.r.of(5); {
	case n == 0 && len(g.l) > 0:
		return g.l[g.r.of(len(g.l))]
	case n < 3:
		return one(g.r.of(600))
	}
	return g.r.any()
}

func (g *game) put() {
	y, free := g.term(), g.p.Free()
	want, sure := slices.Index(g.l, y)+1, term.Check(y)
	fresh := want == 0 && sure == api.OK
	if fresh && g.open {
		want = len(g.l) + 1
	} else if fresh {
		sure = api.ErrBusy
	}
	d, id, e := dict.Put(g.p, g.now, y)
	said := "Put " + show(y) + ": " + strconv.Itoa(id) + " " + strconv.Itoa(d.Terms) + " " + strconv.Itoa(d.Ids)
	if e == api.ErrFull && fresh && free < 6 {
		g.tell(said, e, id == 0 && d == dict.Dict{})
		g.abort()
		return
	}
	g.tell(said, e, e == sure && id == want)
	switch {
	case e != api.OK && d != dict.Dict{} || e == api.OK && d.Last != max(g.now.Last, id):
		g.bad = append(g.bad, said+": Last "+strconv.Itoa(d.Last))
	case e == api.OK && fresh:
		g.now, g.l = d, append(slices.Clip(g.l), y)
	case e == api.OK && d != g.now:
		g.bad = append(g.bad, said+": another dict")
	}
}

func (g *game) find() {
	y := g.term()
	want, sure := slices.Index(g.l, y)+1, term.Check(y)
	if want == 0 && sure == api.OK {
		sure = api.ErrNone
	}
	id, e := dict.Find(g.p, g.now, y)
	g.tell("Find "+show(y)+": "+strconv.Itoa(id), e, id == want && e == sure)
}

func (g *game) get() {
	id := g.r.of(len(g.l)+5) - 2
	want, sure := api.Term{}, api.ErrNone
	if 1 <= id && id <= len(g.l) {
		want, sure = g.l[id-1], api.OK
	}
	y, e := dict.Get(g.p, g.now, id)
	g.tell("Get "+strconv.Itoa(id)+": "+show(y), e, y == want && e == sure)
}

func (g *game) begin() {
	if !g.open {
		e := g.p.Begin()
		g.tell("Begin", e, e == api.OK)
		g.open = true
	}
}

func (g *game) abort() {
	g.p.Abort()
	g.now, g.l, g.open = g.was, g.old, false
}

// commit keeps the dict's numbers on a page that Root tells; it may be broken off, and so may be the Open behind it.
func (g *game) commit() {
	if !g.open {
		return
	}
	e := g.p.Put(g.p.Root(), code.Int(code.Int(code.Int(nil, g.now.Terms), g.now.Ids), g.now.Last))
	g.tell("the numbers", e, e == api.OK)
	g.d.Stop(max(g.r.of(60)-30, 0))
	e = g.p.Commit()
	g.open = false
	if !g.d.Dead() {
		g.d.Stop(0)
		g.tell("Commit", e, e == api.OK)
		g.was, g.old = g.now, g.l
		return
	}
	g.tell("Commit", e, e == api.ErrDead)
	for e != api.OK {
		keep := make([]bool, g.r.of(60))
		for i := range keep {
			keep[i] = g.r.of(3) > 0
		}
		g.d.Crash(keep)
		g.d.Stop(max(g.r.of(40)-20, 0))
		g.p, e = pager.Open(g.d)
		g.d.Stop(0)
	}
	g.reopen()
}

// reopen goes on with the dict that the disk has: as it is, or as it was committed last.
func (g *game) reopen() {
	b, e := g.p.Get(g.p.Root())
	g.tell("the numbers", e, e == api.OK)
	r := code.New(b)
	d := dict.Dict{Terms: r.Int(), Ids: r.Int(), Last: r.Int()}
	switch d {
	case g.now:
		g.was, g.old = g.now, g.l
	case g.was:
		g.now, g.l = g.was, g.old
	default:
		g.bad = append(g.bad, "the dict is neither")
	}
}

// play does any calls, and tells what they answered, and what was wrong of it.
func play(seed uint64) (told, bad string) {
	r := die(seed)
	g := &game{r: &r, d: disk.New(405 + r.of(100))}
	g.p, _ = pager.Open(g.d)
	g.begin()
	at, _ := g.p.New()
	g.p.SetRoot(at)
	d, e := dict.New(g.p)
	g.tell("New", e, e == api.OK && d.Last == 0)
	g.now, g.was = d, d
	g.p.Put(at, code.Int(code.Int(code.Int(nil, d.Terms), d.Ids), d.Last))
	g.p.Commit()
	g.open = false
	for step := range 250 {
		switch n := r.of(40); {
		case n < 2:
			g.commit()
		case n < 6:
			g.begin()
		case n == 6 && r.of(3) == 0:
			g.abort()
		case n < 11:
			g.find()
		case n < 15:
			g.get()
		default:
			g.put()
		}
		if step%25 == 24 {
			if s := against(g.p, g.now, g.l); s != "" {
				g.bad = append(g.bad, s)
			}
			g.told = append(g.told, strconv.Itoa(g.p.Free()), strconv.Itoa(g.d.Ops()))
		}
	}
	return strings.Join(g.told, "\n"), strings.Join(g.bad, "\n")
}

// FuzzDict: P1, P3, P701, P702.
func FuzzDict(f *testing.F) {
	for seed := range uint64(100) {
		f.Add(seed)
	}
	f.Fuzz(func(t *testing.T, seed uint64) {
		told, bad := play(seed)
		if bad != "" {
			t.Errorf("%d: %s", seed, bad)
		}
		again, _ := play(seed)
		if told != again {
			t.Errorf("P3: %d", seed)
		}
	})
}

func TestSideBySide(t *testing.T) {
	p := begun(t, 3000)
	a, b := blank(t, p), blank(t, p)
	for i := range 300 {
		a.put(t, one(i))
		b.put(t, one(299-i), one(i))
	}
	a.shows(t, "P7: two on one pager")
	b.shows(t, "P7: two on one pager")
	var all sync.WaitGroup
	for seed := range uint64(6) {
		want, _ := play(seed)
		for range 2 {
			all.Go(func() {
				if told, _ := play(seed); told != want {
					t.Error("P7: side by side")
				}
			})
		}
	}
	all.Wait()
}

// P1, P8

// prods calls all that can be called on a dict, whatever it is; all that is promised is that the calls end.
func prods(t *testing.T, p *pager.Pager, d dict.Dict) {
	t.Helper()
	for _, y := range []api.Term{lit(""), lit("a"), iri(x(60)), typed(x(60), x(60)), {}} {
		if id, e := dict.Find(p, d, y); id != 0 && e != api.OK {
			t.Errorf("P4: Find: %d, %v", id, e)
		}
		if x, id, e := dict.Put(p, d, y); (x != dict.Dict{} || id != 0) && e != api.OK {
			t.Errorf("P4: Put: %+v, %d, %v", x, id, e)
		}
	}
	for _, id := range []int{math.MinInt, -1, 0, 1, 2, d.Last, math.MaxInt} {
		if y, e := dict.Get(p, d, id); y != (api.Term{}) && e != api.OK {
			t.Errorf("P4: Get: %s, %v", show(y), e)
		}
	}
}

// numbers that may be none of a dict's own.
func numbers() []int {
	return []int{math.MinInt, -1, 0, 1, 2, 3, 4, 5, 97, 98, 99, 1 << 32, math.MaxInt}
}

func TestNoDict(t *testing.T) {
	for _, a := range numbers() {
		for _, b := range numbers() {
			for _, last := range numbers() {
				p := begun(t, 500)
				blank(t, p).put(t, lit("a"), lit("b"))
				prods(t, p, dict.Dict{Terms: a, Ids: b, Last: last})
				p.Abort()
				prods(t, p, dict.Dict{Terms: a, Ids: b, Last: last})
			}
		}
	}
	p := begun(t, 500)
	b := blank(t, p)
	b.put(t, lit("a"))
	for _, d := range []dict.Dict{{}, {Ids: b.d.Ids, Last: 1}, {Terms: 99, Ids: b.d.Ids, Last: 1}} {
		if id, e := dict.Find(p, d, lit("a")); id != 0 || e != api.ErrArg {
			t.Errorf("a root that is none: Find: %d, %v", id, e)
		}
	}
	b.shows(t, "another dict was none")
}

// TestBadPages: trees that hold what no dict has written.
func TestBadPages(t *testing.T) {
	for _, v := range []string{"", "x", x(7), x(8), x(9), "\x01\x01\x00a\x00\x00\x00", "\x01\x01\x00a\x00\x00\x00\x00", "\x00\x01\x00a\x00\x00\x00\x00", "\x03\x01\x00a\x00\x00\x00\x00\x00"} {
		p := begun(t, 500)
		d := blank(t, p).d
		d.Last = 1
		d.Terms, _ = btree.Set(p, d.Terms, string(term.Bytes(lit("a"))), v)
		for _, k := range []string{"\x00\x00\x00\x00\x00\x00\x00\x01", "\x01\x00\x00\x00\x00\x00\x00\x00", "\x01", "1"} {
			d.Ids, _ = btree.Set(p, d.Ids, k, v)
		}
		prods(t, p, d)
		d.Terms, d.Ids = d.Ids, d.Terms
		prods(t, p, d)
		d.Ids = d.Terms
		prods(t, p, d)
	}
}

// FuzzPages: the trees' roots are any bytes, and so are the pages behind them.
func FuzzPages(f *testing.F) {
	f.Add([]byte{}, []byte{}, []byte{}, 1)
	f.Add([]byte("\x01\x02\x03\x00\x02\x00"), []byte("\x01\x02\x02\x00\x03\x00"), []byte("\x00\x01\x01\x01\x00a"), 1)
	f.Add([]byte("\x00\x01\x08\x10\x00\x00\x00\x00\x00\x00\x00\x00\x01\x03\x01\x00a\x00\x00\x00\x00"), []byte("\x00\x01\x08\x10\x00\x03\x01\x00a\x00\x00\x00\x00\x01\x00\x00\x00\x00\x00\x00\x00"), []byte{}, 1)
	f.Add([]byte{1, 255}, []byte{255, 255}, []byte{0, 255}, -1)
	f.Fuzz(func(t *testing.T, a, b, c []byte, last int) {
		for at := range 4 {
			p := begun(t, 440)
			for _, b := range [][]byte{a, b, c} {
				at, _ := p.New()
				p.Put(at, b[:min(len(b), api.Page)])
			}
			prods(t, p, dict.Dict{Terms: 1 + at%2, Ids: 1 + at/2, Last: last})
		}
	})
}
