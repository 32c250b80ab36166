package hexa_test

import (
	"math"
	"slices"
	"strconv"
	"strings"
	"sync"
	"testing"

	"triad/api"
	"triad/btree"
	"triad/code"
	"triad/disk"
	"triad/hexa"
	"triad/pager"
)

// top is the greatest number of a triple.
const top = 1 << 40

// six are the orders, by where their first, second and third numbers stand in a triple.
func six() [6][3]int {
	const s, p, o = 0, 1, 2
	return [6][3]int{{s, p, o}, {s, o, p}, {p, s, o}, {p, o, s}, {o, s, p}, {o, p, s}}
}

// first is Which, as P801 has it, for each of the eight kinds: a 1 for each number that is not 0.
func first() map[[3]int]int {
	return map[[3]int]int{
		{0, 0, 0}: 0, {1, 0, 0}: 0, {1, 1, 0}: 0, {1, 1, 1}: 0,
		{1, 0, 1}: 1,
		{0, 1, 0}: 2,
		{0, 1, 1}: 3,
		{0, 0, 1}: 4,
	}
}

func kind(t [3]int) [3]int {
	for i, x := range t {
		if x != 0 {
			t[i] = 1
		}
	}
	return t
}

// is tells a fault where an error is another one.
func is(t *testing.T, what string, got, want api.Errno) {
	t.Helper()
	if got != want {
		t.Errorf("%s: %v, not %v", what, got, want)
	}
}

// opened are a disk's pages.
func opened(t *testing.T, d *disk.Disk) *pager.Pager {
	t.Helper()
	p, e := pager.Open(d)
	if e != api.OK {
		t.Fatalf("Open: %v", e)
	}
	return p
}

// begun are a disk's pages, with a transaction open.
func begun(t *testing.T, d *disk.Disk) *pager.Pager {
	t.Helper()
	p := opened(t, d)
	is(t, "Begin", p.Begin(), api.OK)
	return p
}

// book is a hexa, and the triples that it must have, in no order.
type book struct {
	p *pager.Pager
	h hexa.Hexa
	l [][3]int
}

// blank is a book of no triples.
func blank(t *testing.T, p *pager.Pager) *book {
	t.Helper()
	h, e := hexa.New(p)
	if e != api.OK {
		t.Fatalf("New: %v", e)
	}
	return &book{p: p, h: h}
}

// filled is a book of such triples, alone on a new disk, its transaction open.
func filled(t *testing.T, l ...[3]int) *book {
	t.Helper()
	b := blank(t, begun(t, disk.New(3000)))
	b.add(t, l...)
	return b
}

// add adds triples with OK: new ones, or ones that are there.
func (b *book) add(t *testing.T, l ...[3]int) {
	t.Helper()
	for _, x := range l {
		fresh, was := !slices.Contains(b.l, x), b.h
		h, did, e := hexa.Add(b.p, b.h, x)
		if did != fresh || e != api.OK || !fresh && h != was {
			t.Fatalf("P801: Add %v: %v, %v, %v, not %v", x, h, did, e, fresh)
		}
		b.h = h
		if fresh {
			b.l = append(b.l, x)
		}
		b.quick(t, x, true)
	}
}

// remove takes triples away with OK: ones that are there, or not.
func (b *book) remove(t *testing.T, l ...[3]int) {
	t.Helper()
	for _, x := range l {
		i, was := slices.Index(b.l, x), b.h
		h, did, e := hexa.Remove(b.p, b.h, x)
		if did != (i >= 0) || e != api.OK || i < 0 && h != was {
			t.Fatalf("P801: Remove %v: %v, %v, %v, not %v", x, h, did, e, i >= 0)
		}
		b.h = h
		if i >= 0 {
			b.l = slices.Delete(b.l, i, i+1)
		}
		b.quick(t, x, false)
	}
}

// quick tells a fault where one of the six trees does not have a triple, or has it, or where there is another count: of
// the whole, and of one of the trees.
func (b *book) quick(t *testing.T, x [3]int, there bool) {
	t.Helper()
	for i, o := range six() {
		n := in(x, o)
		l, e := hexa.Scan(b.p, lone(b.h, i), n)
		if e != api.OK || (len(l) == 1 && l[0] == n) != there || len(l) > 1 {
			t.Fatalf("P802: %v, in order %d: %v, %v, not %v", x, i, l, e, there)
		}
	}
	n, e := hexa.Count(b.p, b.h)
	m, also := btree.Count(b.p, b.h.Roots[len(b.l)%6])
	if n != len(b.l) || m != n || e != api.OK || also != api.OK {
		t.Fatalf("P801: Count behind a change of %v: %d, %d, %v, not %d", x, n, m, e, len(b.l))
	}
}

// lone is one of a hexa's trees in the place of the first: what it has in its order is told as SPO.
func lone(h hexa.Hexa, i int) hexa.Hexa { return hexa.Hexa{Roots: [6]int{h.Roots[i]}} }

// in is a triple in an order.
func in(x, o [3]int) [3]int { return [3]int{x[o[0]], x[o[1]], x[o[2]]} }

// sorted are the triples that fit, in an order.
func sorted(l [][3]int, ask, o [3]int) [][3]int {
	var fit [][3]int
	for _, x := range l {
		if (ask[0] == 0 || ask[0] == x[0]) && (ask[1] == 0 || ask[1] == x[1]) && (ask[2] == 0 || ask[2] == x[2]) {
			fit = append(fit, x)
		}
	}
	slices.SortFunc(fit, func(x, y [3]int) int {
		m, n := in(x, o), in(y, o)
		return slices.Compare(m[:], n[:])
	})
	return fit
}

// against tells the first fault of a hexa: in one of the trees, its Count, or a Scan; nothing, if there is none.
func against(p *pager.Pager, h hexa.Hexa, l [][3]int, asks ...[3]int) string {
	if n, e := hexa.Count(p, h); n != len(l) || e != api.OK {
		return "P801: Count: " + strconv.Itoa(n) + ", " + e.Error() + ", not " + strconv.Itoa(len(l))
	}
	for i, o := range six() {
		var want [][3]int
		for _, x := range sorted(l, [3]int{}, o) {
			want = append(want, in(x, o))
		}
		if got, e := hexa.Scan(p, lone(h, i), [3]int{}); !slices.Equal(got, want) || e != api.OK {
			return "P802: tree " + strconv.Itoa(i) + ": " + show(got...) + ", " + e.Error() + ", not " + show(want...)
		}
	}
	for _, ask := range append(asks, [3]int{}) {
		want := sorted(l, ask, six()[first()[kind(ask)]])
		if got, e := hexa.Scan(p, h, ask); !slices.Equal(got, want) || e != api.OK {
			return "P801: Scan " + show(ask) + ": " + show(got...) + ", " + e.Error() + ", not " + show(want...)
		}
	}
	return ""
}

// asks are scans of all eight kinds that some of a row's triples fit, and ones that differ from these in one number.
func asks(l ...[3]int) [][3]int {
	var all [][3]int
	for i := 0; i < len(l); i += 1 + len(l)/12 {
		for k := range first() {
			x := [3]int{l[i][0] * k[0], l[i][1] * k[1], l[i][2] * k[2]}
			all = append(all, x)
			for at := range 3 {
				y := x
				y[at] = min(max(x[at]+1-2*(i%2), 1), top)
				all = append(all, y)
			}
		}
	}
	return all
}

// none are scans of all kinds but that of all, which no triple of this file's rows fits.
func none() [][3]int {
	var all [][3]int
	for k := range first() {
		if k != [3]int{} {
			all = append(all, [3]int{k[0] * 987654321, k[1] * 987654321, k[2] * 987654321})
		}
	}
	return all
}

// shows tells a fault where a hexa does not have what it must.
func (b *book) shows(t *testing.T, what string) {
	t.Helper()
	if s := against(b.p, b.h, b.l, slices.Concat(asks(b.l...), none())...); s != "" {
		t.Errorf("%s: %s", what, s)
	}
}

// show tells triples for a fault.
func show(l ...[3]int) string {
	var b strings.Builder
	for i, x := range l {
		if i == 10 {
			b.WriteString(".. " + strconv.Itoa(len(l)))
			break
		}
		b.WriteString("(" + strconv.Itoa(x[0]) + " " + strconv.Itoa(x[1]) + " " + strconv.Itoa(x[2]) + ")")
	}
	return b.String()
}

// refused tells a fault where a change answers another error, or anything beside it.
func (b *book) refused(t *testing.T, x [3]int, want api.Errno) {
	t.Helper()
	if h, did, e := hexa.Add(b.p, b.h, x); h != (hexa.Hexa{}) || did || e != want {
		t.Errorf("P801: Add %v: %v, %v, %v, not %v", x, h, did, e, want)
	}
	if h, did, e := hexa.Remove(b.p, b.h, x); h != (hexa.Hexa{}) || did || e != want {
		t.Errorf("P801: Remove %v: %v, %v, %v, not %v", x, h, did, e, want)
	}
}

// small is the i-th of triples that are all others, of low numbers; wide one of numbers of all lengths.
func small(i int) [3]int { return [3]int{1 + i%13, 1 + i/13%5, 1 + i/65} }

func wide(i int) [3]int { return [3]int{top - i%13<<24, 1 + i/13%5<<32, 250 + i/65} }

// same is one of the same number in all three places.
func same(i int) [3]int { return [3]int{1 + i*i*i, 1 + i*i*i, 1 + i*i*i} }

// many are the first n of these, as of says, in an order.
func many(n int, of func(i int) [3]int, order func(i, n int) int) [][3]int {
	var l [][3]int
	for i := range n {
		l = append(l, of(order(i, n)))
	}
	return l
}

// strewn is one of numbers as hundreds of terms have them, far from those of the ones before it in each order.
func strewn(i int) [3]int { return [3]int{1 + i*37%400, 1 + i*101%400, 1 + i*271%399} }

// Orders in which 0 to n-1 may come.

func rising(i, _ int) int { return i }

func falling(i, n int) int { return n - 1 - i }

// mixed needs an n that 7919 (a prime) does not divide.
func mixed(i, n int) int { return i * 7919 % n }

// edges are numbers at the bounds, and where another byte is needed.
func edges() []int {
	l := []int{1, 2, top, top - 1}
	for at := 8; at <= 40; at += 8 {
		l = append(l, 1<<at-1, 1<<at, 1<<at+1)
	}
	l = slices.DeleteFunc(l, func(x int) bool { return x > top })
	slices.Sort(l)
	return slices.Compact(l)
}

// alike are triples of which each differs from others in one number alone, in one byte of it, or in which number is
// where.
func alike() [][3]int {
	const x = 0x0203040506
	l := [][3]int{{1, 2, 3}, {1, 3, 2}, {2, 1, 3}, {2, 3, 1}, {3, 1, 2}, {3, 2, 1}, {1, 1, 1}, {2, 2, 2}, {1, 1, 2}, {1, 2, 1}, {2, 1, 1}, {2, 2, 1}, {2, 1, 2}, {1, 2, 2}}
	l = append(l, [3]int{1, 256, 1}, [3]int{256, 1, 1}, [3]int{1, 1, 256}, [3]int{257, 1, 1}, [3]int{1, 257, 1}, [3]int{1, 1, 257}, [3]int{x, x, x})
	for at := range 3 {
		for shift := 0; shift < 40; shift += 8 {
			for _, by := range []int{1, 2, 4} {
				y := [3]int{x, x, x}
				y[at] ^= by << shift
				l = append(l, y)
			}
		}
	}
	return l
}

// bounds are triples of numbers at the bounds.
func bounds() [][3]int {
	var l [][3]int
	for _, x := range edges() {
		l = append(l, [3]int{x, x, x}, [3]int{x, 1, top}, [3]int{1, top, x}, [3]int{top, x, 1}, [3]int{1, x, 1}, [3]int{x, top, top})
	}
	slices.SortFunc(l, func(x, y [3]int) int { return slices.Compare(x[:], y[:]) })
	return slices.Compact(l)
}

// wrong are triples with a number that may not be, in each place.
func wrong(least int) [][3]int {
	var l [][3]int
	for _, x := range []int{0, -1, -2, -255, -256, -top, math.MinInt, math.MinInt + 1, top + 1, top + 2, top + 256, 2 * top, top << 8, math.MaxInt} {
		if x < least || x > top {
			l = append(l, [3]int{x, 1, 1}, [3]int{1, x, 1}, [3]int{1, 1, x}, [3]int{x, x, x}, [3]int{x, top, x}, [3]int{top, x, 2})
		}
	}
	return l
}

// P801: New

func TestNew(t *testing.T) {
	p := begun(t, disk.New(500))
	is(t, "SetRoot", p.SetRoot(77), api.OK)
	free := p.Free()
	b := blank(t, p)
	b.shows(t, "an empty one")
	if p.Root() != 77 || p.Free() != free-6 {
		t.Errorf("New: Root %d, %d pages", p.Root(), free-p.Free())
	}
	if s := against(p, b.h, nil, asks(alike()...)...); s != "" {
		t.Errorf("an empty one: %s", s)
	}
	b.remove(t, alike()...)
	roots := b.h.Roots[:]
	slices.Sort(roots)
	if len(slices.Compact(roots)) != 6 {
		t.Errorf("New: six trees: %v", b.h)
	}
	c := blank(t, p)
	c.add(t, [3]int{1, 2, 3}, [3]int{3, 2, 1})
	b.shows(t, "P7: an empty one beside another")
	b.add(t, [3]int{3, 2, 1})
	c.shows(t, "P7: beside one that was empty")
	b.shows(t, "P7: beside another")
}

// busy tells a fault where New is not refused for want of a transaction.
func busy(t *testing.T, what string, p *pager.Pager) {
	t.Helper()
	free := p.Free()
	h, e := hexa.New(p)
	is(t, what+": New", e, api.ErrBusy)
	if h != (hexa.Hexa{}) || p.Free() != free {
		t.Errorf("P4, P5: %s: New: %v, Free %d, not %d", what, h, p.Free(), free)
	}
}

func TestNewWithout(t *testing.T) {
	for _, sectors := range []int{403, 404, 407, 408, 409, 500} {
		d := disk.New(sectors)
		p := opened(t, d)
		busy(t, "a new disk", p)
		is(t, "Begin", p.Begin(), api.OK)
		for p.Free() > 0 {
			p.New()
		}
		p.Abort()
		busy(t, "behind an Abort", p)
		is(t, "Begin", p.Begin(), api.OK)
		is(t, "Commit", p.Commit(), api.OK)
		busy(t, "behind a Commit", p)
		if d.Ops() != 0 {
			t.Errorf("P5: %d Writes and Syncs", d.Ops())
		}
	}
}

// Where there is no page for all six trees, none is taken, and what comes next is as it would have been.
func TestNewFull(t *testing.T) {
	for room := range 6 {
		for _, taken := range []int{0, 1, 40} {
			d := disk.New(402 + taken + room + 1)
			p := begun(t, d)
			for range taken + 1 {
				p.New()
			}
			is(t, "Put", p.Put(1, []byte("one")), api.OK)
			for range 2 {
				h, e := hexa.New(p)
				is(t, "New", e, api.ErrFull)
				if h != (hexa.Hexa{}) || p.Free() != room || p.Root() != 0 {
					t.Errorf("P4, P5: New: %v, Free %d, not %d; Root %d", h, p.Free(), room, p.Root())
				}
			}
			if got, _ := p.Get(1); string(got[:4]) != "one\x00" {
				t.Errorf("P5: page 1: %q", got[:4])
			}
			is(t, "Commit", p.Commit(), api.OK)
			busy(t, "P6: ErrBusy, not ErrFull", p)
			p = begun(t, d)
			for at := taken + 2; at < taken+2+room; at++ {
				if got, e := p.New(); got != at || e != api.OK {
					t.Errorf("P5: %d, %v, not page %d, which was free", got, e, at)
				}
			}
			p.Abort()
			is(t, "Begin", p.Begin(), api.OK)
			is(t, "Drop", p.Drop(1), api.OK)
			_, e := hexa.New(p)
			is(t, "New, when a page more is free", e, []api.Errno{api.ErrFull, api.OK}[room/5])
		}
	}
}

// P801: Which

func TestWhich(t *testing.T) {
	for k, want := range first() {
		for _, x := range append(edges(), -1, math.MinInt, math.MaxInt, top+1) {
			for _, y := range []int{1, 2, x, top, -x, x + 1} {
				ask := [3]int{k[0] * x, k[1] * y, k[2] * x}
				if kind(ask) == k && hexa.Which(ask) != want {
					t.Errorf("P801: Which %v: %d, not %d", ask, hexa.Which(ask), want)
				}
			}
		}
	}
	if n := hexa.Which([3]int{0, 5, 0}); n != 2 {
		t.Errorf("the example: %d", n)
	}
}

// The first of the six that has all that is asked for ahead, as P801's words say it.
func TestWhichFirst(t *testing.T) {
	for k := range first() {
		for i, o := range six() {
			n := in(k, o)
			if n[0] >= n[1] && n[1] >= n[2] {
				if hexa.Which(k) != i {
					t.Errorf("P801: Which %v: %d, not %d", k, hexa.Which(k), i)
				}
				break
			}
		}
	}
}

// P801, P802: Add, Remove, Scan, Count

func TestOne(t *testing.T) {
	for _, x := range slices.Concat(alike(), bounds()) {
		b := filled(t, x)
		free := b.p.Free()
		b.shows(t, "one triple")
		b.add(t, x, x)
		b.shows(t, "added again")
		b.remove(t, [3]int{x[0], x[1], x[2]%top + 1}, [3]int{x[0], x[1]%top + 1, x[2]}, [3]int{x[0]%top + 1, x[1], x[2]})
		b.shows(t, "others taken away")
		b.remove(t, x)
		b.shows(t, "taken away")
		b.remove(t, x, x)
		b.shows(t, "taken away again")
		b.add(t, x)
		b.shows(t, "there again")
		if b.p.Free() != free || len(b.l) != 1 {
			t.Errorf("%v: %d pages, %v", x, free-b.p.Free(), b.l)
		}
	}
}

func TestAlike(t *testing.T) {
	for what, l := range map[string][][3]int{"alike": alike(), "at the bounds": bounds()} {
		for _, order := range []func(i, n int) int{rising, falling, mixed} {
			b := filled(t)
			for i := range l {
				b.add(t, l[order(i, len(l))], l[order(i/2, len(l))])
				if i%5 == 0 {
					b.shows(t, what)
				}
			}
			if s := against(b.p, b.h, b.l, asks(l...)...); s != "" {
				t.Errorf("%s: %s", what, s)
			}
			for i := range l {
				b.remove(t, l[i], l[i/2])
				if i%5 == 0 {
					b.shows(t, what+", taken away")
				}
			}
		}
	}
}

// Each of two that are alike goes and comes without the other.
func TestPairs(t *testing.T) {
	p := begun(t, disk.New(500))
	b := blank(t, p)
	for i, x := range alike() {
		for _, y := range alike()[:i] {
			b.add(t, x)
			b.remove(t, y)
			b.add(t, y)
			b.remove(t, x)
			b.add(t, y)
			b.remove(t, y)
		}
	}
	b.shows(t, "none is left")
}

// Each kind's Scan, spelt out: the same six triples by each way.
func TestScanOrders(t *testing.T) {
	b := filled(t, [3]int{1, 300, 5}, [3]int{2, 300, 5}, [3]int{1, 7, 5}, [3]int{1, 300, 2}, [3]int{top, 7, 1}, [3]int{2, 7, 70000})
	for ask, want := range map[[3]int][][3]int{
		{}:           {{1, 7, 5}, {1, 300, 2}, {1, 300, 5}, {2, 7, 70000}, {2, 300, 5}, {top, 7, 1}},
		{1, 0, 0}:    {{1, 7, 5}, {1, 300, 2}, {1, 300, 5}},
		{1, 300, 0}:  {{1, 300, 2}, {1, 300, 5}},
		{1, 300, 5}:  {{1, 300, 5}},
		{1, 0, 5}:    {{1, 7, 5}, {1, 300, 5}},
		{0, 7, 0}:    {{1, 7, 5}, {2, 7, 70000}, {top, 7, 1}},
		{0, 300, 0}:  {{1, 300, 2}, {1, 300, 5}, {2, 300, 5}},
		{0, 300, 5}:  {{1, 300, 5}, {2, 300, 5}},
		{0, 0, 5}:    {{1, 7, 5}, {1, 300, 5}, {2, 300, 5}},
		{0, 0, 1}:    {{top, 7, 1}},
		{top, 7, 1}:  {{top, 7, 1}},
		{3, 0, 0}:    nil,
		{1, 8, 0}:    nil,
		{2, 7, 5}:    nil,
		{top, 0, 5}:  nil,
		{0, 1, 0}:    nil,
		{0, 7, 2}:    nil,
		{0, 0, 300}:  nil,
		{0, top, 0}:  nil,
		{300, 0, 0}:  nil,
		{0, 256, 5}:  nil,
		{0, 44, 0}:   nil,
		{0, 0, 1280}: nil,
	} {
		if got, e := hexa.Scan(b.p, b.h, ask); !slices.Equal(got, want) || e != api.OK {
			t.Errorf("P801: Scan %v: %v, %v, not %v", ask, got, e, want)
		}
	}
	// PSO is by its predicate, then its subject, then its object.
	b = filled(t, [3]int{2, 9, 1}, [3]int{1, 9, 2}, [3]int{1, 9, 1})
	if got, _ := hexa.Scan(b.p, b.h, [3]int{0, 9, 0}); !slices.Equal(got, [][3]int{{1, 9, 1}, {1, 9, 2}, {2, 9, 1}}) {
		t.Errorf("P801: PSO: %v", got)
	}
	// SOP: by its predicates, where subject and object are given.
	b = filled(t, [3]int{4, 256, 4}, [3]int{4, 255, 4}, [3]int{4, 1 << 32, 4}, [3]int{4, 3, 5})
	if got, _ := hexa.Scan(b.p, b.h, [3]int{4, 0, 4}); !slices.Equal(got, [][3]int{{4, 255, 4}, {4, 256, 4}, {4, 1 << 32, 4}}) {
		t.Errorf("P801: SOP: %v", got)
	}
}

// pages are how many each of a hexa's trees has.
func pages(t *testing.T, b *book) [6]int {
	t.Helper()
	var n [6]int
	for i, root := range b.h.Roots {
		free := b.p.Free()
		is(t, "Drop", btree.Drop(b.p, root), api.OK)
		n[i] = b.p.Free() - free
	}
	return n
}

// Hundreds of triples, on many pages of all six trees; and all of them taken away again, in another order.
func TestMany(t *testing.T) {
	for what, of := range map[string]func(i int) [3]int{"small": small, "wide": wide, "same": same} {
		for i, order := range []func(i, n int) int{rising, falling, mixed} {
			n := 400
			l := many(n, of, order)
			b := filled(t)
			free := b.p.Free()
			b.add(t, l...)
			b.shows(t, what)
			full := b.p.Free()
			b.add(t, l[:50]...)
			b.remove(t, of(n), of(n+1), of(n+65))
			if b.p.Free() != full {
				t.Errorf("P801: %s: %d pages for what is there", what, full-b.p.Free())
			}
			back := many(n, of, []func(i, n int) int{mixed, rising, falling}[i])
			b.remove(t, back[:n/2]...)
			b.shows(t, what+", half of them gone")
			b.add(t, back[:n/4]...)
			b.shows(t, what+", some there again")
			b.remove(t, back...)
			b.shows(t, what+", all gone")
			if b.p.Free() != free || len(b.l) != 0 {
				t.Errorf("%s: %d pages left", what, free-b.p.Free())
			}
			b.add(t, l...)
			for i, n := range pages(t, b) {
				if n < 8 {
					t.Errorf("%s: tree %d: %d pages", what, i, n)
				}
			}
		}
	}
}

// The six orders are looked at whole behind each change.
func TestBehindEach(t *testing.T) {
	for _, of := range []func(i int) [3]int{small, wide} {
		b := filled(t)
		for i := range 150 {
			b.add(t, of(mixed(i, 150)))
			if i%3 == 2 {
				b.remove(t, of(mixed(i/2, 150)))
			}
			if s := against(b.p, b.h, b.l); s != "" {
				t.Fatalf("behind change %d: %s", i, s)
			}
		}
		for i := range 150 {
			b.remove(t, of(i))
			if s := against(b.p, b.h, b.l); s != "" {
				t.Fatalf("behind change %d: %s", i, s)
			}
		}
	}
}

// One thing has hundreds of triples: a Scan that is bound goes over many pages, and stops at its end.
func TestScanLong(t *testing.T) {
	for at := range 3 {
		var l [][3]int
		for i := range 400 {
			x := [3]int{1 + i, 1 + i, 1 + i}
			x[at] = 256
			y := x
			y[at] = 255 + 2*(i%2)
			l = append(l, x, y)
		}
		b := filled(t, l...)
		b.shows(t, "bound in place "+strconv.Itoa(at))
		for _, n := range []int{254, 255, 256, 257, 258, 65536} {
			var ask [3]int
			ask[at] = n
			want := map[int]int{255: 200, 256: 400, 257: 200}[n]
			if got, e := hexa.Scan(b.p, b.h, ask); len(got) != want || e != api.OK {
				t.Errorf("P801: Scan %v: %d, %v, not %d", ask, len(got), e, want)
			}
		}
	}
}

// P2: what was answered may be changed.
func TestAnswers(t *testing.T) {
	b := filled(t, many(100, wide, mixed)...)
	l, _ := hexa.Scan(b.p, b.h, [3]int{})
	for i := range l[:cap(l)] {
		l[:cap(l)][i] = [3]int{7, 7, 7}
	}
	b.shows(t, "P2: an answer changed")
}

// Wrong inputs

func TestWrong(t *testing.T) {
	for _, n := range []int{0, 1, 200} {
		d := disk.New(3000)
		b := blank(t, begun(t, d))
		b.add(t, many(n, small, mixed)...)
		free := b.p.Free()
		for _, x := range wrong(1) {
			b.refused(t, x, api.ErrArg)
			if b.p.Free() != free {
				t.Errorf("P5: %v: %d pages", x, free-b.p.Free())
			}
		}
		scans := func(p *pager.Pager) {
			t.Helper()
			for _, x := range append(wrong(0), [3]int{-1}, [3]int{0, -1}, [3]int{0, 0, -1}, [3]int{0, 0, top + 1}, [3]int{0, top + 1}, [3]int{top + 1}) {
				if l, e := hexa.Scan(p, b.h, x); l != nil || e != api.ErrArg {
					t.Errorf("P801: Scan %v: %v, %v", x, l, e)
				}
			}
		}
		scans(b.p)
		b.shows(t, "P5: behind what was refused")
		b.add(t, small(n))
		b.remove(t, small(n))
		is(t, "Commit", b.p.Commit(), api.OK)
		scans(b.p)
		for _, x := range wrong(1) {
			b.refused(t, x, api.ErrArg)
		}
		b.shows(t, "P6: no transaction: ErrArg goes ahead")
	}
}

func TestWithout(t *testing.T) {
	for _, n := range []int{0, 1, 200} {
		d := disk.New(1500)
		b := blank(t, begun(t, d))
		b.add(t, many(n, small, mixed)...)
		is(t, "SetRoot", b.p.SetRoot(5), api.OK)
		is(t, "Commit", b.p.Commit(), api.OK)
		ops, free := d.Ops(), b.p.Free()
		for _, do := range []struct {
			what string
			do   func()
		}{
			{"behind a Commit", func() {}},
			{"behind an Abort", func() {
				is(t, "Begin", b.p.Begin(), api.OK)
				b.p.Abort()
			}},
			{"behind an Open", func() { b.p = opened(t, d) }},
		} {
			do.do()
			for i := range 20 {
				b.refused(t, small(n+i), api.ErrBusy) // one that is not there
				b.refused(t, small(i), api.ErrBusy)   // one that may be there
			}
			b.shows(t, do.what)
			if d.Ops() != ops || b.p.Free() != free || b.p.Root() != 5 {
				t.Errorf("P5: %s: %d Writes and Syncs, Free %d, Root %d", do.what, d.Ops()-ops, b.p.Free(), b.p.Root())
			}
		}
		is(t, "Begin", b.p.Begin(), api.OK)
		b.add(t, small(n))
		b.shows(t, "in a transaction")
		if b.p.Root() != 5 {
			t.Errorf("Root %d", b.p.Root())
		}
	}
}

// grown adds triples, a Commit each, till there is no room; it tells how many.
func grown(t *testing.T, b *book, of func(i int) [3]int) int {
	t.Helper()
	for n := range 3000 {
		is(t, "Begin", b.p.Begin(), api.OK)
		x := of(mixed(n, 3000))
		h, did, e := hexa.Add(b.p, b.h, x)
		if e != api.OK {
			is(t, "Add", e, api.ErrFull)
			if h != (hexa.Hexa{}) || did {
				t.Errorf("P4: %v, %v", h, did)
			}
			b.p.Abort()
			return n
		}
		b.h, b.l = h, append(b.l, x)
		is(t, "Commit", b.p.Commit(), api.OK)
	}
	t.Fatalf("no ErrFull")
	return 0
}

// Behind an ErrFull an Abort brings all back, whichever of the trees had no page.
func TestFull(t *testing.T) {
	for _, of := range []func(i int) [3]int{small, wide} {
		for sectors := 408; sectors < 426; sectors++ {
			d := disk.New(sectors)
			b := blank(t, begun(t, d))
			is(t, "Commit", b.p.Commit(), api.OK)
			n := grown(t, b, of)
			if n < sectors-408 {
				t.Errorf("ErrFull behind %d triples on %d pages", n, sectors-402)
			}
			b.shows(t, "given up")
			b.p = opened(t, d)
			b.shows(t, "given up, opened again")
			is(t, "Begin", b.p.Begin(), api.OK)
			if _, _, e := hexa.Add(b.p, b.h, of(mixed(n, 3000))); e != api.ErrFull {
				t.Errorf("ErrFull, then %v", e)
			}
			b.p.Abort()
			is(t, "Begin", b.p.Begin(), api.OK)
			b.add(t, b.l[n/2], b.l[0], b.l[n-1]) // these are there, and need no room
			b.remove(t, of(mixed(n, 3000)))
			b.remove(t, slices.Clone(b.l)...)
			b.shows(t, "all taken away on a disk that is full")
			is(t, "Commit", b.p.Commit(), api.OK)
			b.shows(t, "committed")
		}
	}
}

// On a disk that is dead there is nothing to be had, and all ends.
func TestDead(t *testing.T) {
	d := disk.New(1500)
	b := blank(t, begun(t, d))
	b.add(t, many(100, small, mixed)...)
	is(t, "Commit", b.p.Commit(), api.OK)
	is(t, "Begin", b.p.Begin(), api.OK)
	d.Stop(1)
	d.Sync()
	b.refused(t, small(100), api.ErrDead)
	b.refused(t, small(1), api.ErrDead)
	b.refused(t, [3]int{0, 1, 1}, api.ErrArg)
	for _, x := range asks([3]int{1, 1, 1}) {
		if l, e := hexa.Scan(b.p, b.h, x); l != nil || e != api.ErrDead {
			t.Errorf("Scan: %v, %v", l, e)
		}
	}
	if n, e := hexa.Count(b.p, b.h); n != 0 || e != api.ErrDead {
		t.Errorf("Count: %d, %v", n, e)
	}
	d.Crash(nil)
	b.p = opened(t, d)
	b.shows(t, "the power is there again")
}

// Transactions

// A hexa is plain numbers: whoever keeps them has it, behind a Commit, an Open, a crash.
func TestCommitted(t *testing.T) {
	d := disk.New(2000)
	b := blank(t, begun(t, d))
	is(t, "Commit", b.p.Commit(), api.OK)
	for round := range 8 {
		is(t, "Begin", b.p.Begin(), api.OK)
		was := book{b.p, b.h, slices.Clone(b.l)}
		b.add(t, many(60, func(i int) [3]int { return wide(round*60 + i) }, mixed)...)
		b.remove(t, slices.Clone(b.l[:20])...)
		b.shows(t, "not committed yet")
		if s := against(opened(t, d), was.h, was.l); s != "" {
			t.Errorf("not committed, opened again: %s", s)
		}
		if round%3 == 2 {
			b.p.Abort()
			*b = was
			b.shows(t, "given up")
			is(t, "Begin", b.p.Begin(), api.OK)
			b.add(t, wide(round*60), small(round))
			b.shows(t, "behind one that was given up")
		}
		is(t, "Commit", b.p.Commit(), api.OK)
		b.shows(t, "committed")
		d.Crash(nil)
		b.p = opened(t, d)
		plain := b.h.Roots
		b.h = hexa.Hexa{Roots: plain}
		b.shows(t, "opened again")
	}
}

// One Commit has room for a change of 60 triples that come or go, behind hundreds of others: the limit of 400 pages is
// for all that a store has.
func TestCommitRoom(t *testing.T) {
	for _, n := range []int{0, 60, 180, 240, 300} {
		for _, order := range []func(i, n int) int{rising, falling, mixed} {
			l := many(360, strewn, order)
			d := disk.New(3000)
			b := blank(t, begun(t, d))
			b.add(t, l[:n]...)
			is(t, "Commit", b.p.Commit(), api.OK)
			for _, change := range []func(t *testing.T, l ...[3]int){b.add, b.remove} {
				is(t, "Begin", b.p.Begin(), api.OK)
				ops := d.Ops()
				change(t, l[n:n+60]...)
				is(t, "Commit", b.p.Commit(), api.OK)
				if wrote := (d.Ops() - ops) / 2; wrote > 100 {
					t.Errorf("%d triples: 60 more: some %d pages", n, wrote)
				}
				b.shows(t, "60 triples in one transaction")
			}
		}
	}
}

// P3, P7: any calls, against plain lists

// die throws numbers.
type die uint64

func (d *die) of(k int) int {
	*d = *d*6364136223846793005 + 1442695040888963407
	return int(uint64(*d) >> 33 % uint64(k))
}

// number throws one, so that the same ones come again; now and then any one that may be, or one that may not.
func (d *die) number() int {
	switch d.of(30) {
	case 0:
		return d.of(1<<20)<<20 + d.of(1<<20) + 1
	case 1:
		return edges()[d.of(len(edges()))]
	case 2:
		return []int{0, -1, top + 1, math.MinInt, math.MaxInt}[d.of(5)]
	}
	return []int{1, 2, 3, 255, 256, 65536, top - 1, top}[d.of(8)]
}

// game is a hexa, and what it must have: as it was committed last, and as it is.
type game struct {
	r         *die
	d         *disk.Disk
	p         *pager.Pager
	was, now  hexa.Hexa
	old, l    [][3]int
	open      bool
	told, bad []string
}

func (g *game) tell(what string, e api.Errno, right bool) {
	said := what + " " + e.Error()
	g.told = append(g.told, said)
	if !right {
		g.bad = append(g.bad, said)
	}
}

// triple throws one: any, or one that is there.
func (g *game) triple() [3]int {
	if g.r.of(3) == 0 && len(g.l) > 0 {
		return g.l[g.r.of(len(g.l))]
	}
	return [3]int{g.r.number(), g.r.number(), g.r.number()}
}

// may is the error that a change or a Scan must answer.
func (g *game) may(x [3]int, least int) api.Errno {
	switch {
	case slices.Min(x[:]) < least || slices.Max(x[:]) > top:
		return api.ErrArg
	case least == 1 && !g.open:
		return api.ErrBusy
	}
	return api.OK
}

func (g *game) change() {
	x, free := g.triple(), g.p.Free()
	what, call := "Add ", hexa.Add
	if g.r.of(5) < 2 {
		what, call = "Remove ", hexa.Remove
	}
	at := slices.Index(g.l, x)
	sure := g.may(x, 1)
	want := sure == api.OK && (at < 0) == (what == "Add ")
	h, did, e := call(g.p, g.now, x)
	said := what + show(x) + ": " + show([3]int(h.Roots[:3]), [3]int(h.Roots[3:])) + " " + strconv.FormatBool(did)
	if e == api.ErrFull && want && what == "Add " && free < 12 {
		g.tell(said, e, !did && h == hexa.Hexa{})
		g.abort()
		return
	}
	g.tell(said, e, e == sure && did == want)
	switch {
	case e != api.OK && h != hexa.Hexa{} || e == api.OK && !did && h != g.now:
		g.bad = append(g.bad, said+": another hexa")
	case did && at < 0:
		g.now, g.l = h, append(slices.Clip(g.l), x)
	case did:
		g.now, g.l = h, slices.Concat(g.l[:at], g.l[at+1:])
	}
}

func (g *game) scan() {
	x := g.triple()
	for i := range x {
		x[i] *= g.r.of(2)
	}
	var want [][3]int
	sure := g.may(x, 0)
	if sure == api.OK {
		want = sorted(g.l, x, six()[first()[kind(x)]])
	}
	l, e := hexa.Scan(g.p, g.now, x)
	g.tell("Scan "+show(x)+": "+show(l...), e, slices.Equal(l, want) && e == sure)
}

func (g *game) count() {
	n, e := hexa.Count(g.p, g.now)
	g.tell("Count "+strconv.Itoa(n), e, n == len(g.l) && e == api.OK)
}

func (g *game) begin() {
	if !g.open {
		e := g.p.Begin()
		g.tell("Begin", e, e == api.OK)
		g.open = true
	}
}

func (g *game) abort() {
	g.p.Abort()
	g.now, g.l, g.open = g.was, g.old, false
}

// roots are a hexa's numbers, for a page.
func roots(h hexa.Hexa) []byte {
	var b []byte
	for _, root := range h.Roots {
		b = code.Int(b, root)
	}
	return b
}

// commit keeps the hexa's numbers on a page that Root tells; it may be broken off, and so may be the Open behind it.
func (g *game) commit() {
	if !g.open {
		return
	}
	e := g.p.Put(g.p.Root(), roots(g.now))
	g.tell("the numbers", e, e == api.OK)
	g.d.Stop(max(g.r.of(60)-30, 0))
	e = g.p.Commit()
	g.open = false
	if !g.d.Dead() {
		g.d.Stop(0)
		g.tell("Commit", e, e == api.OK)
		g.was, g.old = g.now, g.l
		return
	}
	g.tell("Commit", e, e == api.ErrDead)
	for e != api.OK {
		keep := make([]bool, g.r.of(60))
		for i := range keep {
			keep[i] = g.r.of(3) > 0
		}
		g.d.Crash(keep)
		g.d.Stop(max(g.r.of(40)-20, 0))
		g.p, e = pager.Open(g.d)
		g.d.Stop(0)
	}
	g.reopen()
}

// reopen goes on with the hexa that the disk has: as it is, or as it was committed last.
func (g *game) reopen() {
	b, e := g.p.Get(g.p.Root())
	g.tell("the numbers", e, e == api.OK)
	var h hexa.Hexa
	r := code.New(b)
	for i := range h.Roots {
		h.Roots[i] = r.Int()
	}
	if h == g.was && against(g.p, g.was, g.old) == "" { // a change may leave the roots as they were
		g.now, g.l = g.was, g.old
		return
	}
	if h != g.now {
		g.bad = append(g.bad, "the hexa is neither")
	}
	g.was, g.old = g.now, g.l
}

// play does any calls, and tells what they answered, and what was wrong of it.
func play(seed uint64) (told, bad string) {
	r := die(seed)
	g := &game{r: &r, d: disk.New(410 + r.of(60))}
	g.p, _ = pager.Open(g.d)
	g.begin()
	at, _ := g.p.New()
	g.p.SetRoot(at)
	h, e := hexa.New(g.p)
	g.tell("New", e, e == api.OK)
	g.now, g.was = h, h
	g.p.Put(at, roots(h))
	g.p.Commit()
	g.open = false
	for step := range 250 {
		switch n := r.of(40); {
		case n < 2:
			g.commit()
		case n < 6:
			g.begin()
		case n == 6 && r.of(3) == 0:
			g.abort()
		case n < 12:
			g.scan()
		case n == 12:
			g.count()
		default:
			g.change()
		}
		if step%25 == 24 {
			if s := against(g.p, g.now, g.l, asks(g.l...)...); s != "" {
				g.bad = append(g.bad, s)
			}
			g.told = append(g.told, strconv.Itoa(g.p.Free()), strconv.Itoa(g.d.Ops()))
		}
	}
	return strings.Join(g.told, "\n"), strings.Join(g.bad, "\n")
}

// FuzzHexa: P1, P3, P801, P802.
func FuzzHexa(f *testing.F) {
	for seed := range uint64(100) {
		f.Add(seed)
	}
	f.Fuzz(func(t *testing.T, seed uint64) {
		told, bad := play(seed)
		if bad != "" {
			t.Errorf("%d: %s", seed, bad)
		}
		again, _ := play(seed)
		if told != again {
			t.Errorf("P3: %d", seed)
		}
	})
}

func TestSideBySide(t *testing.T) {
	p := begun(t, disk.New(3000))
	a, b := blank(t, p), blank(t, p)
	for i := range 200 {
		a.add(t, small(i))
		b.add(t, small(199-i), wide(i))
		a.remove(t, small(i/2), wide(i))
	}
	a.shows(t, "P7: two on one pager")
	b.shows(t, "P7: two on one pager")
	var all sync.WaitGroup
	for seed := range uint64(6) {
		want, _ := play(seed)
		for range 2 {
			all.Go(func() {
				if told, _ := play(seed); told != want {
					t.Error("P7: side by side")
				}
			})
		}
	}
	all.Wait()
}

// P1, P8

// prods calls all that can be called on a hexa, whatever it is; all that is promised is that the calls end.
func prods(t *testing.T, p *pager.Pager, h hexa.Hexa) {
	t.Helper()
	for _, x := range [][3]int{{1, 2, 3}, {1, 1, 1}, {top, 255, 256}, {0, 1, 1}} {
		if y, did, e := hexa.Add(p, h, x); (y != hexa.Hexa{} || did) && e != api.OK {
			t.Errorf("P4: Add: %v, %v, %v", y, did, e)
		}
		if y, did, e := hexa.Remove(p, h, x); (y != hexa.Hexa{} || did) && e != api.OK {
			t.Errorf("P4: Remove: %v, %v, %v", y, did, e)
		}
	}
	for k := range first() {
		if l, e := hexa.Scan(p, h, k); l != nil && e != api.OK {
			t.Errorf("P4: Scan: %v, %v", l, e)
		}
	}
	if n, e := hexa.Count(p, h); n != 0 && e != api.OK {
		t.Errorf("P4: Count: %d, %v", n, e)
	}
}

func TestNoHexa(t *testing.T) {
	l := []int{math.MinInt, -1, 0, 1, 3, 6, 7, 97, 98, 99, 1 << 32, math.MaxInt}
	for _, a := range l {
		for at := range 6 {
			p := begun(t, disk.New(500))
			b := blank(t, p)
			b.add(t, small(1), small(2))
			b.h.Roots[at] = a
			prods(t, p, b.h)
			b.h.Roots = [6]int{a, a, a, a, a, a}
			prods(t, p, b.h)
			p.Abort()
			prods(t, p, b.h)
		}
	}
	p := begun(t, disk.New(500))
	b := blank(t, p)
	b.add(t, small(1))
	prods(t, p, hexa.Hexa{})
	if n, e := hexa.Count(p, hexa.Hexa{}); n != 0 || e != api.ErrArg {
		t.Errorf("a root that is none: Count: %d, %v", n, e)
	}
	b.shows(t, "another hexa was none")
}

// TestBadKeys: trees that hold what no hexa has written.
func TestBadKeys(t *testing.T) {
	for _, k := range []string{"", "\x00", "\x01", "\x01\x01", "\x01\x01\x01\x01", "\x01\x01\x01\x01\x01", "\x01\x01\x01\x01\x01\x01\x00", "\x00\x00\x00", "\xff\xff", "\xff" + strings.Repeat("\xff", 130), "\x09" + strings.Repeat("\xff", 11), "\x01\x01\x01\x01\x02\x01"} {
		p := begun(t, disk.New(500))
		b := blank(t, p)
		b.add(t, [3]int{1, 5, 5}, [3]int{2, 5, 5})
		h := b.h
		for i := range h.Roots {
			h.Roots[i], _ = btree.Set(p, h.Roots[i], k, "")
		}
		prods(t, p, h)
		if l, e := hexa.Scan(p, h, [3]int{}); l != nil && e != api.OK {
			t.Errorf("P4: %q: %v, %v", k, l, e)
		}
	}
}

// FuzzPages: the trees' roots are any bytes, and so are the pages behind them.
func FuzzPages(f *testing.F) {
	f.Add([]byte{}, []byte{}, []byte{})
	f.Add([]byte("\x01\x02\x03\x00\x02\x00"), []byte("\x01\x02\x02\x00\x03\x00"), []byte("\x00\x01\x01\x01\x00a"))
	f.Add([]byte("\x00\x01\x06\x06\x00\x01\x01\x01\x02\x01\x03"), []byte("\x00\x01\x06\x06\x00\x01\x01\x01\x01\x01\x01"), []byte("\x00\x01\x05\x05\x00\x01\x01\x01\x02\x01"))
	f.Add([]byte{1, 255}, []byte{255, 255}, []byte{0, 255})
	f.Fuzz(func(t *testing.T, a, b, c []byte) {
		for at := range 3 {
			p := begun(t, disk.New(440))
			for _, b := range [][]byte{a, b, c} {
				at, _ := p.New()
				p.Put(at, b[:min(len(b), api.Page)])
			}
			var h hexa.Hexa
			for i := range h.Roots {
				h.Roots[i] = 1 + (i+at)%3
			}
			prods(t, p, h)
		}
	})
}
