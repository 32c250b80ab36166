package btree_test

import (
	"bytes"
	"maps"
	"math"
	"slices"
	"strconv"
	"strings"
	"sync"
	"testing"

	"triad/api"
	"triad/btree"
	"triad/code"
	"triad/disk"
	"triad/pager"
)

// is tells a fault where an error is another one.
func is(t *testing.T, what string, got, want api.Errno) {
	t.Helper()
	if got != want {
		t.Errorf("%s: %v, not %v", what, got, want)
	}
}

// opened are a disk's pages.
func opened(t *testing.T, d *disk.Disk) *pager.Pager {
	t.Helper()
	p, e := pager.Open(d)
	if e != api.OK {
		t.Fatalf("Open: %v", e)
	}
	return p
}

// begun are the pages of a new disk, with a transaction open.
func begun(t *testing.T, sectors int) *pager.Pager {
	t.Helper()
	p := opened(t, disk.New(sectors))
	is(t, "Begin", p.Begin(), api.OK)
	return p
}

// tree is a tree, and what it must have.
type tree struct {
	p    *pager.Pager
	root int
	want map[string]string
	used int // how many pages others have
}

// planted is a new tree.
func planted(t *testing.T, p *pager.Pager, others int) *tree {
	t.Helper()
	root, e := btree.New(p)
	if e != api.OK {
		t.Fatalf("New: %v", e)
	}
	return &tree{p, root, map[string]string{}, others}
}

// grown is a tree of keys 0 to n-1 of so many bytes, set in mixed order, alone on a disk.
func grown(t *testing.T, sectors, n, long int) *tree {
	t.Helper()
	x := planted(t, begun(t, sectors), 0)
	for i := range n {
		x.set(t, key(mixed(i, n), long), value(i))
	}
	return x
}

// set sets what must be set with OK.
func (x *tree) set(t *testing.T, k, v string) {
	t.Helper()
	root, e := btree.Set(x.p, x.root, k, v)
	if e != api.OK {
		t.Fatalf("Set %q: %v", clip(k), e)
	}
	x.root, x.want[k] = root, v
}

// del takes away what must be told to be there, or not to be.
func (x *tree) del(t *testing.T, k string) {
	t.Helper()
	_, was := x.want[k]
	root, there, e := btree.Del(x.p, x.root, k)
	if there != was || e != api.OK {
		t.Fatalf("Del %q: %v, %v, not %v", clip(k), there, e, was)
	}
	x.root = root
	delete(x.want, k)
}

// keys are the keys that it must have, in order.
func (x *tree) keys() []string { return slices.Sorted(maps.Keys(x.want)) }

func clip(s string) string { return s[:min(len(s), 16)] }

// fits tells a fault where a tree has more pages than P502 allows, on a disk of so many sectors.
func (x *tree) fits(t *testing.T, sectors int) {
	t.Helper()
	used := sectors - 402 - x.p.Free() - x.used
	if used > 1+2*len(x.want) || used < 1 {
		t.Fatalf("P502: %d pages of %d keys", used, len(x.want))
	}
}

// shows tells a fault where a tree does not have what it must.
func (x *tree) shows(t *testing.T, what string) {
	t.Helper()
	if s := against(x.p, x.root, x.want); s != "" {
		t.Errorf("%s: %s", what, s)
	}
}

// against tells the first fault of a tree; nothing, if there is none.
func against(p *pager.Pager, root int, want map[string]string) string {
	if n, e := btree.Count(p, root); n != len(want) || e != api.OK {
		return "Count: " + strconv.Itoa(n) + ", " + e.Error() + ", not " + strconv.Itoa(len(want))
	}
	keys, vals, e := btree.Range(p, root, "", "", math.MaxInt)
	if e != api.OK || len(vals) != len(keys) || !slices.Equal(keys, slices.Sorted(maps.Keys(want))) {
		return "Range: " + strconv.Itoa(len(keys)) + " keys, " + strconv.Itoa(len(vals)) + " values, " + e.Error()
	}
	for i, k := range keys {
		if v, there, e := btree.Get(p, root, k); v != want[k] || vals[i] != v || !there || e != api.OK {
			return "Get " + k + ": " + v + ", " + strconv.FormatBool(there) + ", " + e.Error() + "; Range: " + vals[i]
		}
		for _, k := range []string{k + "\x00", k[:max(len(k)-1, 0)]} {
			v, there, e := btree.Get(p, root, k)
			if s, was := want[k]; v != s || there != was || e != api.OK {
				return "Get " + k + ": " + v + ", " + strconv.FormatBool(there) + ", " + e.Error()
			}
		}
	}
	return ""
}

// key is the i-th key of so many bytes (5 at least): the ones of more differ behind many bytes that they share.
func key(i, long int) string {
	s := strconv.Itoa(100000 + i)[1:]
	return strings.Repeat("k", long-5) + s
}

func value(i int) string { return strings.Repeat("v", i%8) + strconv.Itoa(i%100) }

// Orders in which 0 to n-1 may come.

func rising(i, _ int) int { return i }

func falling(i, n int) int { return n - 1 - i }

// mixed needs an n that 7919 (a prime) does not divide.
func mixed(i, n int) int { return i * 7919 % n }

// inward comes from both ends.
func inward(i, n int) int {
	if i%2 == 0 {
		return i / 2
	}
	return n - 1 - i/2
}

// outward comes from the middle.
func outward(i, n int) int { return inward(n-1-i, n) }

// die throws.
type die struct{ n uint64 }

func (d *die) of(k int) int {
	d.n = d.n*6364136223846793005 + 1442695040888963407
	return int(d.n>>33) % k
}

// P501: New

func TestNew(t *testing.T) {
	p := begun(t, 500)
	free := p.Free()
	root, e := btree.New(p)
	is(t, "New", e, api.OK)
	if p.Free() != free-1 {
		t.Errorf("New: %d pages, not one", free-p.Free())
	}
	if _, e := p.Get(root); e != api.OK {
		t.Errorf("New: %d: %v", root, e)
	}
	if s := against(p, root, nil); s != "" {
		t.Errorf("New: %s", s)
	}
	for _, k := range []string{"", "\x00", "a", "\xff", strings.Repeat("k", 140)} {
		if v, there, e := btree.Get(p, root, k); v != "" || there || e != api.OK {
			t.Errorf("Get %q of an empty one: %q, %v, %v", clip(k), v, there, e)
		}
	}
	other, e := btree.New(p)
	is(t, "a second one", e, api.OK)
	if other == root || p.Free() != free-2 || p.Root() != 0 {
		t.Errorf("a second one: %d, beside %d; Root %d", other, root, p.Root())
	}
}

func TestNewFaults(t *testing.T) {
	p := opened(t, disk.New(404))
	fails := func(what string, want api.Errno) {
		t.Helper()
		root, e := btree.New(p)
		is(t, what, e, want)
		if root != 0 {
			t.Errorf("P4: %s: %d beside the error", what, root)
		}
	}
	fails("no transaction", api.ErrBusy)
	is(t, "Begin", p.Begin(), api.OK)
	for range 2 {
		_, e := btree.New(p)
		is(t, "there is room", e, api.OK)
	}
	fails("no page is free", api.ErrFull)
	p.Abort()
	fails("no transaction any more", api.ErrBusy)
	if p.Free() != 2 {
		t.Errorf("Free: %d, not 2", p.Free())
	}
}

// P501: Get, Set, Del

func TestFew(t *testing.T) {
	x := planted(t, begun(t, 500), 0)
	for _, k := range []string{"b", "", "a\x00", "a", "\xff", "\xff\xff", "\x00", "ab", "B", "ä", "\xc3\x28", strings.Repeat("\xff", 140)} {
		x.set(t, k, "v"+clip(k)[:min(len(k), 9)])
		x.shows(t, "set "+clip(k))
		x.fits(t, 500)
	}
	for _, k := range []string{"a", "", "\xff", "none", "\x00"} {
		x.del(t, k)
		x.shows(t, "taken away: "+k)
		x.del(t, k)
		x.shows(t, "taken away twice: "+k)
	}
	x.set(t, "", "")
	x.set(t, "a", "\x00")
	x.shows(t, "set again behind it")
}

func TestLengths(t *testing.T) {
	for _, n := range []int{0, 1, 3, 4, 40} {
		x := grown(t, 600, n, 60)
		for _, c := range []struct {
			key, val int
			want     api.Errno
		}{
			{0, 0, api.OK}, {0, 150, api.OK}, {0, 151, api.ErrLong}, {1, 149, api.OK}, {1, 150, api.ErrLong}, {75, 75, api.OK},
			{75, 76, api.ErrLong}, {100, 51, api.ErrLong}, {139, 11, api.OK}, {139, 12, api.ErrLong}, {140, 0, api.OK},
			{140, 10, api.OK}, {140, 11, api.ErrLong}, {141, 0, api.ErrLong}, {141, 9, api.ErrLong}, {141, 10, api.ErrLong},
			{150, 0, api.ErrLong}, {151, 0, api.ErrLong}, {255, 0, api.ErrLong}, {256, 0, api.ErrLong}, {0, 256, api.ErrLong},
			{0, 504, api.ErrLong}, {1 << 16, 0, api.ErrLong}, {1<<16 + 5, 1, api.ErrLong}, {5, 1 << 16, api.ErrLong},
		} {
			what := strconv.Itoa(c.key) + ", " + strconv.Itoa(c.val)
			k, v := strings.Repeat("m", c.key), strings.Repeat("w", c.val)
			root, e := btree.Set(x.p, x.root, k, v)
			is(t, what, e, c.want)
			if e != api.OK && root != 0 {
				t.Errorf("P4: %s: %d beside the error", what, root)
			}
			if e == api.OK {
				x.root, x.want[k] = root, v
			}
			x.shows(t, what) // P5; and the transaction goes on
			x.fits(t, 600)
		}
		is(t, "Commit", x.p.Commit(), api.OK)
		x.shows(t, "committed")
	}
}

// A key that is too long to be set is not there.
func TestLongKeys(t *testing.T) {
	x := grown(t, 600, 30, 140)
	for _, n := range []int{141, 150, 151, 300, 1 << 17} {
		for _, k := range []string{strings.Repeat("k", n), strings.Repeat("\xff", n), key(7, 140) + strings.Repeat("0", n-140)} {
			v, there, e := btree.Get(x.p, x.root, k)
			if v != "" || there || e != api.OK {
				t.Errorf("Get of %d bytes: %q, %v, %v", n, v, there, e)
			}
			x.del(t, k)
			keys, _, e := btree.Range(x.p, x.root, k, "", 1)
			if want := k < key(29, 140); len(keys) == 1 != want || e != api.OK {
				t.Errorf("Range from %d bytes: %q, %v", n, keys, e)
			}
		}
	}
	x.shows(t, "P5")
}

func TestSetAgain(t *testing.T) {
	t.Parallel()
	for _, n := range []int{1, 3, 20, 300} {
		x := grown(t, 900, n, 20)
		for _, long := range []int{0, 130, 1, 130, 130, 20, 0, 0, 129, 10} {
			for i := range n {
				x.set(t, key(mixed(i, n), 20), strings.Repeat(string(rune('a'+i%26)), long))
				x.fits(t, 900)
			}
			x.shows(t, strconv.Itoa(n)+" keys with values of "+strconv.Itoa(long))
		}
		for round := range 3 {
			for i := range n {
				x.set(t, key(i, 20), strings.Repeat("r", (i*37+round*50)%131))
			}
			x.shows(t, strconv.Itoa(n)+" keys with other values")
			x.fits(t, 900)
		}
	}
}

func TestDelFaults(t *testing.T) {
	for _, n := range []int{0, 1, 2, 50, 400} {
		x := grown(t, 900, n, 30)
		free := x.p.Free()
		for _, k := range []string{"", "k", "\xff", key(n, 30), key(0, 29), key(0, 31), key(n/2, 30) + "\x00"} {
			root, there, e := btree.Del(x.p, x.root, k)
			if root != x.root || there || e != api.OK {
				t.Errorf("Del of none: %d, %v, %v, not %d", root, there, e, x.root)
			}
		}
		if x.p.Free() != free {
			t.Errorf("Del of none: %d pages", free-x.p.Free())
		}
		x.shows(t, "Del of none")
	}
}

// The last key taken away: one page is left, as behind New.
func TestLast(t *testing.T) {
	for _, n := range []int{1, 2, 3, 4, 5, 40, 1000} {
		x := grown(t, 3000, n, 140)
		for i := range n {
			x.del(t, key(mixed(n-1-i, n), 140))
			x.fits(t, 3000)
		}
		x.shows(t, "all taken away")
		x.del(t, key(0, 140))
		if x.p.Free() != 3000-402-1 {
			t.Errorf("all of %d keys taken away: %d pages", n, 3000-402-x.p.Free())
		}
		x.set(t, "again", "there")
		x.shows(t, "set behind it")
	}
}

// P501: Range

// between are the keys that Range must tell, in the promise's own words.
func between(keys []string, from, to string, most int) []string {
	var l []string
	for _, k := range keys {
		if k >= from && (to == "" || k < to) && len(l) < most {
			l = append(l, k)
		}
	}
	return l
}

// ranges tells a fault where Range answers others; all are the keys of the tree, in order.
func (x *tree) ranges(t *testing.T, all []string, from, to string, most int) {
	t.Helper()
	keys, vals, e := btree.Range(x.p, x.root, from, to, most)
	want := between(all, from, to, most)
	if e != api.OK || !slices.Equal(keys, want) || len(vals) != len(keys) {
		t.Fatalf("%d keys: from %q to %q, at most %d: %d keys, %d values, %v, not %d", len(x.want), clip(from), clip(to), most, len(keys), len(vals), e, len(want))
	}
	for i, k := range keys {
		if vals[i] != x.want[k] {
			t.Fatalf("Range: %q: %q, not %q", k, vals[i], x.want[k])
		}
	}
}

func TestRange(t *testing.T) {
	t.Parallel()
	for _, n := range []int{0, 1, 2, 3, 9, 60} {
		x := grown(t, 900, n, 120)
		all := x.keys()
		ends := []string{"", "\x00", "j", "k", "l", "\xff", strings.Repeat("\xff", 141), key(0, 119), key(n, 120)}
		for i := 0; i < n; i += 1 + n/9 {
			k := key(i, 120)
			ends = append(ends, k, k+"\x00", k[:119])
		}
		for _, from := range ends {
			for _, to := range ends {
				for _, most := range []int{0, 1, 2, 3, 4, 59, 60, 61, math.MaxInt} {
					x.ranges(t, all, from, to, most)
				}
			}
		}
	}
}

// The keys of a great tree as the beginning, and as the end.
func TestRangeEdges(t *testing.T) {
	t.Parallel()
	n := 1300
	x := grown(t, 3000, n, 140)
	all := x.keys()
	for i := range n {
		k := key(i, 140)
		x.ranges(t, all, k, "", i%7)
		x.ranges(t, all, k+"\x00", "", (i+3)%7)
		x.ranges(t, all, k, key(i+i%9, 140), math.MaxInt)
		x.ranges(t, all, k, k+"\x00", math.MaxInt)
	}
	x.ranges(t, all, "", "", n-1)
	x.ranges(t, all, "", key(n-1, 140), math.MaxInt)
	x.ranges(t, all, key(700, 140), key(100, 140), math.MaxInt)
}

func TestRangeFaults(t *testing.T) {
	d := disk.New(500)
	p := opened(t, d)
	is(t, "Begin", p.Begin(), api.OK)
	x := planted(t, p, 0)
	x.set(t, "k", "v")
	is(t, "Commit", p.Commit(), api.OK)
	fails := func(what string, root, most int, want api.Errno) {
		t.Helper()
		keys, vals, e := btree.Range(p, root, "", "", most)
		is(t, what, e, want)
		if keys != nil || vals != nil {
			t.Errorf("P4: %s: %q, %q beside the error", what, keys, vals)
		}
	}
	for _, most := range []int{-1, -2, math.MinInt} {
		fails("below 0", x.root, most, api.ErrArg)
	}
	x.ranges(t, x.keys(), "", "", 1)
	d.Stop(1)
	d.Sync()
	fails("P6: below 0, no power", x.root, -1, api.ErrArg)
	fails("no power", x.root, 1, api.ErrDead)
	is(t, "no power: Get", third(btree.Get(p, x.root, "k")), api.ErrDead)
	is(t, "no power: Count", second(btree.Count(p, x.root)), api.ErrDead)
	is(t, "no power: Begin", p.Begin(), api.OK)
	is(t, "no power: Set", second(btree.Set(p, x.root, "k", "w")), api.ErrDead)
	is(t, "no power: Del", third(btree.Del(p, x.root, "k")), api.ErrDead)
	is(t, "no power: Drop", btree.Drop(p, x.root), api.ErrDead)
	p.Abort()
	d.Crash(nil)
	x.p = opened(t, d)
	x.shows(t, "the power is there again")
}

func second[A any](_ A, e api.Errno) api.Errno { return e }

func third[A, B any](_ A, _ B, e api.Errno) api.Errno { return e }

// P502, P503

func TestOrders(t *testing.T) {
	t.Parallel()
	orders := []func(i, n int) int{rising, falling, mixed, inward, outward}
	for _, c := range []struct{ n, key, val int }{{30, 140, 10}, {300, 5, 0}, {300, 30, 8}, {300, 140, 10}} {
		for _, in := range orders {
			for _, out := range orders {
				x := planted(t, begun(t, 3000), 0)
				for i := range c.n {
					x.set(t, key(in(i, c.n), c.key), strings.Repeat("v", c.val))
					x.fits(t, 3000)
				}
				x.shows(t, "all set")
				for i := range c.n {
					x.del(t, key(out(i, c.n), c.key))
					x.fits(t, 3000)
					if i == c.n/2 {
						x.shows(t, "half of them taken away")
					}
				}
				x.shows(t, "all taken away")
			}
		}
	}
}

// So many of the longest keys that a page has no room for all the leaves: two levels stand above them.
func TestGreat(t *testing.T) {
	for what, order := range map[string]func(i, n int) int{"rising": rising, "falling": falling, "mixed": mixed} {
		t.Run(what, func(t *testing.T) {
			t.Parallel()
			n := 6500
			x := planted(t, begun(t, 3000), 0)
			for i := range n {
				x.set(t, key(order(i, n), 140), "0123456789")
				x.fits(t, 3000)
			}
			x.shows(t, "all set")
			for i := range n {
				x.del(t, key(order((n/2+i)%n, n), 140))
				x.fits(t, 3000)
				if i == n/2 || i == n-100 {
					x.shows(t, "some taken away")
				}
			}
			if x.p.Free() != 3000-402-1 {
				t.Errorf("all taken away: %d pages", 3000-402-x.p.Free())
			}
		})
	}
}

// Keys of all lengths, set and taken away again and again, against a plain map.
func TestThrown(t *testing.T) {
	t.Parallel()
	for seed := range uint64(8) {
		d := &die{seed}
		x := planted(t, begun(t, 3000), 0)
		long := []int{2, 12, 60, 141}[seed%4]
		for step := range 2000 {
			k := strings.Repeat(string([]byte{byte(d.of(256))}), d.of(long))
			k += string([]byte{byte(d.of(256)), byte(d.of(4))})[:min(2, 140-len(k))]
			if grow := step/500%2 == 0; d.of(10) < 2 == grow {
				if keys, _, _ := btree.Range(x.p, x.root, k, "", 1); len(keys) > 0 && d.of(10) > 0 {
					k = keys[0]
				}
				x.del(t, k)
			} else {
				x.set(t, k, strings.Repeat("v", d.of(151-len(k))))
			}
			x.fits(t, 3000)
			if step%250 == 249 {
				x.shows(t, "thrown")
				x.ranges(t, x.keys(), k, "", d.of(30))
				x.ranges(t, x.keys(), "", k, d.of(3000))
			}
		}
	}
}

// Where no page is free: what needs none is done all the same.
func TestNoRoom(t *testing.T) {
	t.Parallel()
	for _, long := range []int{5, 70, 140} {
		for _, order := range []func(i, n int) int{rising, falling, mixed, outward} {
			n := 400
			x := grown(t, 3000, n, long)
			for e := api.OK; e == api.OK; {
				_, e = x.p.New()
			}
			for i := range n {
				x.set(t, key(i, long), value(i)[:1])
			}
			x.shows(t, "shorter values")
			for i := range n {
				x.del(t, key(order(i, n), long))
			}
			x.shows(t, "all taken away")
		}
	}
}

// P501: Drop

func TestDrop(t *testing.T) {
	for _, n := range []int{0, 1, 3, 4, 30, 1000} {
		p := begun(t, 3000)
		x := planted(t, p, 0)
		other := planted(t, p, 0)
		for i := range n {
			x.set(t, key(i, 140), value(i))
			other.set(t, key(i, 9), value(i+1))
		}
		root := x.root
		mine := map[int]bool{}
		for at := 1; at < 2598; at++ {
			if _, e := p.Get(at); e == api.OK {
				mine[at] = true
			}
		}
		is(t, "Drop", btree.Drop(p, x.root), api.OK)
		other.shows(t, "the one beside it")
		is(t, "Drop of the one beside it", btree.Drop(p, other.root), api.OK)
		if p.Free() != 3000-402 {
			t.Errorf("%d keys: Drop: %d pages are in use", n, 3000-402-p.Free())
		}
		for at := range mine {
			_, e := p.Get(at)
			is(t, "a page of it", e, api.ErrArg)
		}
		is(t, "Drop again", btree.Drop(p, root), api.ErrArg)
		x = planted(t, p, 0)
		x.set(t, "k", "v")
		x.shows(t, "a new one behind it")
		x.fits(t, 3000)
	}
}

// Errors

// quiet tells a fault where a change is not refused for want of a transaction.
func (x *tree) quiet(t *testing.T, what string) {
	t.Helper()
	for _, k := range []string{"", key(0, 50), key(1, 50), key(9999, 50), strings.Repeat("k", 150)} {
		if len(k) <= 140 {
			root, e := btree.Set(x.p, x.root, k, x.want[k])
			is(t, what+": Set", e, api.ErrBusy)
			other, f := btree.Set(x.p, x.root, k, "new")
			is(t, what+": Set", f, api.ErrBusy)
			if root != 0 || other != 0 {
				t.Errorf("P4: %s: Set: %d, %d beside the error", what, root, other)
			}
		}
		root, there, e := btree.Del(x.p, x.root, k)
		is(t, what+": Del", e, api.ErrBusy)
		if root != 0 || there {
			t.Errorf("P4: %s: Del: %d, %v beside the error", what, root, there)
		}
	}
	is(t, what+": Drop", btree.Drop(x.p, x.root), api.ErrBusy)
	is(t, what+": New", second(btree.New(x.p)), api.ErrBusy)
	is(t, what+": P6: Set, too long", second(btree.Set(x.p, x.root, strings.Repeat("k", 141), "")), api.ErrLong)
	is(t, what+": P6: Set, too long", second(btree.Set(x.p, x.root, "k", strings.Repeat("v", 150))), api.ErrLong)
	x.shows(t, "P5: "+what)
}

func TestWithout(t *testing.T) {
	for _, n := range []int{0, 1, 2, 100} {
		d := disk.New(600)
		p := opened(t, d)
		is(t, "Begin", p.Begin(), api.OK)
		x := planted(t, p, 0)
		for i := range n {
			x.set(t, key(i, 50), value(i))
		}
		is(t, "Commit", p.Commit(), api.OK)
		ops, free := d.Ops(), p.Free()
		x.quiet(t, "behind a Commit")
		is(t, "Begin", p.Begin(), api.OK)
		p.Abort()
		x.quiet(t, "behind an Abort")
		x.p = opened(t, d)
		x.quiet(t, "behind an Open")
		if d.Ops() != ops || x.p.Free() != free || x.p.Root() != 0 {
			t.Errorf("P5: %d Writes and Syncs, Free %d, Root %d", d.Ops()-ops, x.p.Free(), x.p.Root())
		}
	}
}

// Behind an error of a change an Abort brings all back.
func TestFull(t *testing.T) {
	for _, sectors := range []int{403, 404, 405, 406, 410, 480} {
		p := opened(t, disk.New(sectors))
		is(t, "Begin", p.Begin(), api.OK)
		x := planted(t, p, 0)
		is(t, "Commit", p.Commit(), api.OK)
		e := api.OK
		for n := 0; e == api.OK; n++ {
			if n > 1000 {
				t.Fatalf("%d sectors: no ErrFull", sectors)
			}
			var root int
			is(t, "Begin", p.Begin(), api.OK)
			root, e = btree.Set(p, x.root, key(mixed(n, 2000), 140), "v")
			if e != api.OK {
				is(t, "no page is free", e, api.ErrFull)
				if root != 0 {
					t.Errorf("P4: %d beside the error", root)
				}
				p.Abort()
				break
			}
			x.root, x.want[key(mixed(n, 2000), 140)] = root, "v"
			x.fits(t, sectors)
			is(t, "Commit", p.Commit(), api.OK)
		}
		x.shows(t, "given up")
		if len(x.want) < (sectors-402)/2 {
			t.Errorf("P502: ErrFull behind %d keys on %d pages", len(x.want), sectors-402)
		}
		is(t, "Begin", p.Begin(), api.OK)
		for i := range 2000 {
			if k := key(i, 140); x.want[k] != "" {
				x.del(t, k)
			}
		}
		is(t, "Commit", p.Commit(), api.OK)
		x.shows(t, "all taken away")
	}
}

// P8 promises less, but a root that is no page in use is refused by the pager.
func TestNoRoot(t *testing.T) {
	p := begun(t, 500)
	x := planted(t, p, 0)
	x.set(t, "k", "v")
	gone, e := btree.New(p)
	is(t, "New", e, api.OK)
	is(t, "Drop", btree.Drop(p, gone), api.OK)
	none := []int{math.MinInt, -401, -1, 0, gone, gone + 1, 97, 98, 99, 500, 3000, 1 << 32, 1<<16 + x.root, math.MaxInt}
	for _, root := range none {
		v, there, e := btree.Get(p, root, "k")
		is(t, "Get", e, api.ErrArg)
		keys, vals, f := btree.Range(p, root, "", "", 9)
		is(t, "Range", f, api.ErrArg)
		n, g := btree.Count(p, root)
		is(t, "Count", g, api.ErrArg)
		if v != "" || there || keys != nil || vals != nil || n != 0 {
			t.Errorf("P4: %d: %q, %v, %q, %q, %d beside the error", root, v, there, keys, vals, n)
		}
		a, e := btree.Set(p, root, "k", "v")
		is(t, "Set", e, api.ErrArg)
		b, there, f := btree.Del(p, root, "k")
		is(t, "Del", f, api.ErrArg)
		if a != 0 || b != 0 || there {
			t.Errorf("P4: %d: %d, %d, %v beside the error", root, a, b, there)
		}
		is(t, "Drop", btree.Drop(p, root), api.ErrArg)
		is(t, "P6: Set, too long", second(btree.Set(p, root, strings.Repeat("k", 141), "")), api.ErrLong)
	}
	x.shows(t, "P5")
	is(t, "Commit", p.Commit(), api.OK)
	for _, root := range none {
		is(t, "P6: no transaction: Set", second(btree.Set(p, root, "k", "v")), api.ErrBusy)
		is(t, "P6: no transaction: Del", third(btree.Del(p, root, "k")), api.ErrBusy)
		is(t, "P6: no transaction: Drop", btree.Drop(p, root), api.ErrBusy)
		is(t, "no transaction: Get", third(btree.Get(p, root, "k")), api.ErrArg)
	}
	x.shows(t, "P5: no transaction")
}

// Transactions

func TestCommitted(t *testing.T) {
	t.Parallel()
	d := disk.New(3000)
	p := opened(t, d)
	is(t, "Begin", p.Begin(), api.OK)
	x := planted(t, p, 0)
	is(t, "Commit", p.Commit(), api.OK)
	n := 900
	for from := 0; from < n; from += 100 {
		is(t, "Begin", p.Begin(), api.OK)
		was, old := x.root, maps.Clone(x.want)
		for i := from; i < from+100; i++ {
			x.set(t, key(mixed(i, n), 140), value(i))
			if i%3 == 0 {
				x.del(t, key(mixed(i/2, n), 140))
			}
		}
		x.shows(t, "not committed yet")
		if s := against(opened(t, d), was, old); s != "" {
			t.Errorf("not committed, opened again: %s", s)
		}
		if from == 300 {
			p.Abort()
			x.root, x.want = was, old
			x.shows(t, "given up")
			continue
		}
		is(t, "Commit", p.Commit(), api.OK)
		x.shows(t, "committed")
		if from%200 == 0 {
			d.Crash(nil)
			p = opened(t, d)
			x.p = p
			x.shows(t, "opened again behind a crash")
			x.fits(t, 3000)
		}
	}
	is(t, "Begin", p.Begin(), api.OK)
	is(t, "Drop", btree.Drop(p, x.root), api.OK)
	p.Abort()
	x.shows(t, "P501: Drop given up")
}

// What changes nothing writes nothing.
func TestSame(t *testing.T) {
	d := disk.New(700)
	p := opened(t, d)
	is(t, "Begin", p.Begin(), api.OK)
	x := planted(t, p, 0)
	for i := range 200 {
		x.set(t, key(i, 40), value(i))
	}
	is(t, "Commit", p.Commit(), api.OK)
	ops := d.Ops()
	is(t, "Begin", p.Begin(), api.OK)
	x.del(t, "none")
	x.ranges(t, x.keys(), "", "", 9)
	is(t, "too long", second(btree.Set(p, x.root, key(0, 141), "")), api.ErrLong)
	is(t, "Commit", p.Commit(), api.OK)
	if d.Ops() != ops {
		t.Errorf("%d Writes and Syncs", d.Ops()-ops)
	}
	x.shows(t, "nothing changed")
}

// P3, P7 and T2: any calls, against plain maps

// game is a tree, and what it must have: as it was committed last, and as it is.
type game struct {
	r         *die
	d         *disk.Disk
	p         *pager.Pager
	root      int
	was, now  map[string]string
	open      bool
	wide      int // how long keys get
	told, bad []string
}

func (g *game) tell(what string, e api.Errno, right bool) {
	said := what + " " + e.Error()
	g.told = append(g.told, said)
	if !right {
		g.bad = append(g.bad, said)
	}
}

func (g *game) key() string {
	if l := slices.Sorted(maps.Keys(g.now)); len(l) > 0 && g.r.of(3) == 0 {
		return l[g.r.of(len(l))]
	}
	k := strings.Repeat(string([]byte{byte(g.r.of(256))}), g.r.of(g.wide))
	return k + string([]byte{byte(g.r.of(256))})
}

// sure is what must be answered: OK, if there is a transaction.
func (g *game) sure() api.Errno {
	if g.open {
		return api.OK
	}
	return api.ErrBusy
}

func (g *game) set() {
	k, v, free := g.key(), strings.Repeat("v", g.r.of(40)), g.p.Free()
	want := g.sure()
	if len(k) > 140 || len(k)+len(v) > 150 {
		want = api.ErrLong
	}
	root, e := btree.Set(g.p, g.root, k, v)
	if e == api.ErrFull && want == api.OK && free < 3 {
		g.tell("Set", e, root == 0)
		g.abort()
		return
	}
	g.tell("Set "+strconv.Itoa(root), e, e == want && (e == api.OK) == (root != 0))
	if e == api.OK {
		g.root, g.now[k] = root, v
	}
}

func (g *game) del() {
	k := g.key()
	_, was := g.now[k]
	root, there, e := btree.Del(g.p, g.root, k)
	g.tell("Del "+strconv.Itoa(root), e, e == g.sure() && there == (was && g.open))
	if e == api.OK {
		g.root = root
		delete(g.now, k)
	}
}

func (g *game) find() {
	k := g.key()
	s, was := g.now[k]
	v, there, e := btree.Get(g.p, g.root, k)
	g.tell("Get "+v, e, e == api.OK && v == s && there == was)
	to, most := g.key(), g.r.of(20)-1
	want := between(slices.Sorted(maps.Keys(g.now)), k, to, most)
	keys, _, e := btree.Range(g.p, g.root, k, to, most)
	g.tell("Range "+strings.Join(keys, " "), e, (e == api.OK) == (most >= 0) && slices.Equal(keys, want))
}

func (g *game) begin() {
	if g.open {
		return
	}
	e := g.p.Begin()
	g.tell("Begin", e, e == api.OK)
	g.open = true
}

func (g *game) abort() {
	g.p.Abort()
	g.now, g.root, g.open = maps.Clone(g.was), g.p.Root(), false
}

// commit keeps the root as the pager's; it may be broken off, and so may be the Open behind it.
func (g *game) commit() {
	if !g.open {
		return
	}
	late := g.root
	g.p.SetRoot(late)
	g.d.Stop(max(g.r.of(60)-30, 0))
	e := g.p.Commit()
	g.open = false
	if !g.d.Dead() {
		g.d.Stop(0)
		g.tell("Commit", e, e == api.OK)
		g.was = maps.Clone(g.now)
		return
	}
	g.tell("Commit", e, e == api.ErrDead)
	for e != api.OK {
		keep := make([]bool, g.r.of(60))
		for i := range keep {
			keep[i] = g.r.of(3) > 0
		}
		g.d.Crash(keep)
		g.d.Stop(max(g.r.of(40)-20, 0))
		g.p, e = pager.Open(g.d)
		g.d.Stop(0)
	}
	g.root = g.p.Root()
	if against(g.p, g.root, g.now) != "" {
		g.now = g.was
	}
	g.was, g.now = maps.Clone(g.now), maps.Clone(g.now)
}

// drop drops the tree, and makes a new one.
func (g *game) drop() {
	e := btree.Drop(g.p, g.root)
	g.tell("Drop", e, e == g.sure())
	if e != api.OK {
		return
	}
	if g.p.Free() != g.d.Size()-402 {
		g.bad = append(g.bad, "Drop: Free")
	}
	g.root, e = btree.New(g.p)
	g.tell("New", e, e == api.OK)
	g.now = map[string]string{}
}

func (g *game) look() {
	if s := against(g.p, g.root, g.now); s != "" {
		g.bad = append(g.bad, s)
	}
	used := g.d.Size() - 402 - g.p.Free()
	if used < 1 || used > 1+2*len(g.now) {
		g.bad = append(g.bad, "P502: "+strconv.Itoa(used)+" pages of "+strconv.Itoa(len(g.now)))
	}
	g.told = append(g.told, strconv.Itoa(used), strconv.Itoa(g.d.Ops()))
}

// play does any calls, and tells what they answered, and what was wrong of it.
func play(seed uint64) (told, bad string) {
	r := &die{seed}
	g := &game{r: r, d: disk.New(403 + r.of(60)), now: map[string]string{}, wide: []int{1, 10, 60, 150}[r.of(4)]}
	g.p, _ = pager.Open(g.d)
	g.begin()
	g.root, _ = btree.New(g.p)
	g.was = map[string]string{}
	g.p.SetRoot(g.root)
	g.p.Commit()
	g.open = false
	grow := 6
	for step := range 250 {
		if step%60 == 59 {
			grow = 2 + r.of(9)
		}
		switch n := r.of(30); {
		case n < 2:
			g.commit()
		case n < 5:
			g.begin()
		case n == 5 && r.of(3) == 0:
			g.abort()
		case n == 6 && r.of(6) == 0:
			g.drop()
		case n < 9:
			g.find()
		case n < 9+2*grow:
			g.set()
		default:
			g.del()
		}
		if step%10 == 9 {
			g.look()
		}
	}
	return strings.Join(g.told, "\n"), strings.Join(g.bad, "\n")
}

// FuzzTree: P1, P3, P501 to P503.
func FuzzTree(f *testing.F) {
	for seed := range uint64(150) {
		f.Add(seed)
	}
	f.Fuzz(func(t *testing.T, seed uint64) {
		told, bad := play(seed)
		if bad != "" {
			t.Errorf("%d: %s", seed, bad)
		}
		again, _ := play(seed)
		if told != again {
			t.Errorf("P3: %d", seed)
		}
	})
}

func TestSideBySide(t *testing.T) {
	p := begun(t, 3000)
	var l []*tree
	for i := range 3 {
		l = append(l, planted(t, p, 0))
		l[i].set(t, "own", strconv.Itoa(i))
	}
	for i := range 300 {
		l[0].set(t, key(i, 100), "a")
		l[1].set(t, key(299-i, 30), "b")
		l[2].set(t, key(mixed(i, 300), 140), "c")
		if i%2 == 1 {
			l[i%3].del(t, key(i/2, []int{100, 30, 140}[i%3]))
		}
	}
	for _, x := range l {
		x.shows(t, "three trees on one disk")
	}
	var all sync.WaitGroup
	for seed := range uint64(6) {
		want, _ := play(seed)
		for range 2 {
			all.Go(func() {
				if told, _ := play(seed); told != want {
					t.Error("P7: side by side")
				}
			})
		}
	}
	all.Wait()
}

// P2

func TestAnswersAreNew(t *testing.T) {
	x := grown(t, 600, 50, 40)
	keys, vals, e := btree.Range(x.p, x.root, "", "", 50)
	is(t, "Range", e, api.OK)
	keys, vals = keys[:cap(keys)], vals[:cap(vals)]
	for i := range keys {
		keys[i] = "?"
	}
	for i, v := range vals {
		if v == "?" {
			t.Error("P2: keys and values share")
		}
		vals[i] = "!"
	}
	for _, k := range keys {
		if k != "?" {
			t.Error("P2: keys and values share")
		}
	}
	x.shows(t, "P2: an answer that was changed")
	some, _, _ := btree.Range(x.p, x.root, "", "", 5)
	old := slices.Clone(some)
	for i := range 20 {
		x.del(t, key(i, 40))
	}
	if !slices.Equal(some, old) {
		t.Error("P2: an answer was changed by a later call")
	}
}

// P1, P8

// leaf is a page of keys, as the program has it; above is one of kids.
func leaf(keys ...string) []byte {
	b := []byte{0, byte(len(keys))}
	for _, k := range keys {
		b = code.Text(code.Byte(b, len(k)), k)
	}
	return b
}

func above(level int, kids ...int) []byte {
	b := []byte{byte(level), byte(len(kids))}
	for _, at := range kids {
		b = append(b, byte(at), byte(at>>8))
	}
	return b
}

// prods calls all that can be called on a root, whatever it is; all that is promised is that the calls end.
func prods(t *testing.T, p *pager.Pager, root int) {
	t.Helper()
	for _, k := range []string{"", "b", "m", "\xff", strings.Repeat("k", 140)} {
		if v, there, e := btree.Get(p, root, k); (v != "" || there) && e != api.OK {
			t.Errorf("P4: Get: %q, %v, %v", v, there, e)
		}
		if keys, vals, e := btree.Range(p, root, k, "", 1<<30); (keys != nil || vals != nil) && e != api.OK {
			t.Errorf("P4: Range: %d, %d, %v", len(keys), len(vals), e)
		}
		if n, e := btree.Count(p, root); n != 0 && e != api.OK {
			t.Errorf("P4: Count: %d, %v", n, e)
		}
		at, e := btree.Set(p, root, k, "v")
		if (at != 0) != (e == api.OK) {
			t.Errorf("P4: Set: %d, %v", at, e)
		}
		if at, there, e := btree.Del(p, root, k); (at != 0 || there) && e != api.OK {
			t.Errorf("P4: Del: %d, %v, %v", at, there, e)
		}
	}
	btree.Drop(p, root)
	btree.Drop(p, root)
}

// FuzzAnyPages: pages 1 to 4 are any bytes; page 5 is a leaf that they may have below them.
func FuzzAnyPages(f *testing.F) {
	long := strings.Repeat("z", 255)
	f.Add(leaf("a", "b"), leaf(), leaf(), leaf(), 1)
	f.Add(above(1, 2, 3), leaf("a", "b"), leaf("m"), []byte{}, 1)
	f.Add(above(1, 2, 3), leaf(), leaf(), []byte{}, 1)
	f.Add(above(1, 1, 1), []byte{}, []byte{}, []byte{}, 1)
	f.Add(above(1, 1, 5), []byte{}, []byte{}, []byte{}, 1)
	f.Add(above(1, 2), leaf("a"), []byte{}, []byte{}, 1)
	f.Add(above(1), []byte{}, []byte{}, []byte{}, 1)
	f.Add(above(2, 2, 2), above(2, 1, 1), []byte{}, []byte{}, 1)
	f.Add(above(2, 2, 2), above(1, 3, 3), leaf("a", "b", "c"), []byte{}, 1)
	f.Add(above(3, 2, 2, 2), above(2, 3, 3, 3), above(1, 5, 5, 5), []byte{}, 1)
	f.Add(above(3, 2, 3), above(2, 4, 4), above(2, 4, 4), above(1, 5, 5), 1)
	f.Add(above(1, 2, 3, 4), leaf(long), leaf(long, long[:200]), leaf(long, "\xff"), 1)
	f.Add(above(1, 0, 9), above(255, 1, 1), above(1, 65535, 1), above(256, 2, 3), 2)
	f.Add(leaf("m", "b", "a", "m"), leaf("b", "b", "b"), []byte{}, []byte{}, 1)
	f.Add(above(1, 2, 5), leaf(), above(0, 3, 4), above(1, 5, 5), 1)
	f.Add(above(1, 5, 2), []byte("\x00\x02\x01\x01\x00z\x01\xff\xff"), above(1, 5, 5), []byte{}, 1)
	f.Add(above(2, 3, 2), []byte("\x01\x03\x05"), above(1, 5, 5), []byte{}, 1)
	f.Add([]byte{}, []byte{255, 255}, []byte{0, 255}, []byte{1, 255}, 3)
	f.Add([]byte("\x00\x01\x05\x02\x00ab"), []byte("\x00\x01\x05\xff\xffab"), []byte("\x01\x05\x09\x00"), []byte{}, 2)
	f.Fuzz(func(t *testing.T, a, b, c, d []byte, root int) {
		for at := range 6 {
			p := begun(t, 440)
			for _, b := range [][]byte{a, b, c, d, leaf("k", "l")} {
				at, _ := p.New()
				p.Put(at, b[:min(len(b), api.Page)])
			}
			if at == 0 {
				at = root
			}
			prods(t, p, at)
		}
	})
}

// What no tree can have is refused, not followed.
func TestBad(t *testing.T) {
	for what, pages := range map[string][][]byte{
		"no kid":                     {above(1)},
		"one kid":                    {above(1, 2), leaf("a")},
		"itself its kid":             {above(1, 1, 2), leaf("b")},
		"itself its other kid":       {above(1, 2, 1), leaf("b")},
		"a kid of its level":         {above(1, 2, 3), above(1, 3, 4), leaf("a"), leaf("b")},
		"a kid that is far below":    {above(2, 2, 3), leaf("a"), above(1, 2, 4), leaf("b")},
		"a kid that is empty":        {above(1, 2, 3), leaf("a"), leaf()},
		"the first kid empty":        {above(1, 2, 3), leaf(), leaf("a")},
		"no room for its kids":       {append([]byte{1, 255}, bytes.Repeat([]byte{2, 0}, 251)...), leaf("a")},
		"a text that is cut":         {[]byte("\x00\x02\x01\x01\x00a\x01\xff\xff")},
		"a key longer than the text": {[]byte("\x00\x01\x03\x02\x00ab")},
		"so many levels that there is no room for all": {above(12, 2, 3), leaf("a"), leaf("b")},
	} {
		p := begun(t, 420)
		for _, b := range pages {
			at, _ := p.New()
			is(t, "Put", p.Put(at, b), api.OK)
		}
		n, e := btree.Count(p, 1)
		is(t, what+": Count", e, api.ErrBad)
		keys, vals, e := btree.Range(p, 1, "", "", 999)
		is(t, what+": Range", e, api.ErrBad)
		if n != 0 || keys != nil || vals != nil {
			t.Errorf("P4: %s: %d, %q, %q beside the error", what, n, keys, vals)
		}
		prods(t, p, 1)
	}
}

// Pages that come again and again below one another would be gone through for ever.
func TestEndless(t *testing.T) {
	for _, kids := range []int{2, 250} {
		for _, levels := range []int{3, 11, 12, 100, 255} {
			p := begun(t, 900)
			at, _ := p.New()
			p.Put(at, leaf("a", "m"))
			for level := 1; level <= levels; level++ {
				below := at
				at, _ = p.New()
				p.Put(at, above(level, slices.Repeat([]int{below}, kids)...))
			}
			prods(t, p, at)
		}
	}
}
