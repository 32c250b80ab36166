package redo_test

import (
	"bytes"
	"encoding/binary"
	"math"
	"slices"
	"strconv"
	"strings"
	"sync"
	"testing"

	"triad/api"
	"triad/disk"
	"triad/redo"
)

// full is a sector as it is read: s, with noughts behind.
func full(s string) string { return s + strings.Repeat("\x00", api.Sector-len(s)) }

// num is a number's eight bytes, the lowest first.
func num(n int) string { return string(binary.LittleEndian.AppendUint64(nil, uint64(n))) }

func headOf(n int) string { return "TRIADLOG" + num(n) }

// page is one whose bytes, 504 of them, go on from its place on.
func page(at int) api.Put {
	b := make([]byte, api.Page)
	for i := range b {
		b[i] = byte(at + i%250 + 1)
	}
	return api.Put{At: at, B: b}
}

// pages are n of them, from the home at on.
func pages(at, n int) []api.Put {
	var l []api.Put
	for i := range n {
		l = append(l, page(at+i))
	}
	return l
}

func put(at int, s string) api.Put { return api.Put{At: at, B: []byte(s)} }

// is tells a fault where an error is another one.
func is(t *testing.T, what string, got, want api.Errno) {
	t.Helper()
	if got != want {
		t.Errorf("%s: %v, not %v", what, got, want)
	}
}

// recovers tells a fault where Recover answers another thing.
func recovers(t *testing.T, what string, d *disk.Disk, want int, e api.Errno) {
	t.Helper()
	n, f := redo.Recover(d)
	if n != want || f != e {
		t.Errorf("%s: Recover: %d, %v, not %d, %v", what, n, f, want, e)
	}
}

// image is all sectors of a disk.
func image(t *testing.T, d *disk.Disk) []string {
	t.Helper()
	all := make([]string, d.Size())
	for at := range all {
		b, e := d.Read(at)
		if e != api.OK {
			t.Fatalf("sector %d: %v", at, e)
		}
		all[at] = string(b)
	}
	return all
}

// has tells a fault where a disk has another image.
func has(t *testing.T, what string, d *disk.Disk, want []string) {
	t.Helper()
	for at, s := range image(t, d) {
		if s != want[at] {
			t.Errorf("%s: sector %d: %q, not %q", what, at, s[:24], want[at][:24])
			return
		}
	}
}

// dirty is a disk of which each sector was something else up to its last byte, synced.
func dirty(t *testing.T, sectors int) *disk.Disk {
	t.Helper()
	d := disk.New(sectors)
	for at := range d.Size() {
		s := "sector " + strconv.Itoa(at) + " "
		is(t, "Write", d.Write(at, []byte(s+strings.Repeat("#", api.Sector-len(s)))), api.OK)
	}
	is(t, "Sync", d.Sync(), api.OK)
	return d
}

// logged is such a disk, with a head, and body's sectors from 1 on.
func logged(t *testing.T, sectors int, head string, body ...string) *disk.Disk {
	t.Helper()
	d := dirty(t, sectors)
	is(t, "Write of the head", d.Write(0, []byte(head)), api.OK)
	for i, s := range body {
		is(t, "Write of the body", d.Write(1+i, []byte(s)), api.OK)
	}
	is(t, "Sync", d.Sync(), api.OK)
	return d
}

// step is a Write of a sector, or, at -1, a Sync.
type step struct {
	at int
	s  string
}

var synced = step{at: -1}

// settleSteps are the last ones of both calls, in the promises' own words.
func settleSteps(l []api.Put) []step {
	var out []step
	for _, p := range l {
		out = append(out, step{p.At, string(p.B)})
	}
	return append(out, synced, step{0, ""}, synced)
}

// commitSteps are all of a Commit's.
func commitSteps(l []api.Put) []step {
	var out []step
	for i, p := range l {
		out = append(out, step{1 + i, num(p.At) + string(p.B)})
	}
	out = append(out, synced, step{0, headOf(len(l))}, synced)
	return append(out, settleSteps(l)...)
}

// bodies are the sectors of a body with these pages.
func bodies(l []api.Put) []string {
	var out []string
	for _, p := range l {
		out = append(out, num(p.At)+string(p.B))
	}
	return out
}

// takes tells a fault where a call on a disk does not take just these steps: where the power goes at any of them
// (of a great many: those around each Sync), and none, the last, or all of the Writes since the last Sync stay.
func takes(t *testing.T, what string, fresh func() *disk.Disk, call func(d *disk.Disk) api.Errno, steps []step) {
	t.Helper()
	was := image(t, fresh())
	for k := 1; k <= len(steps); k++ {
		if len(steps) > 100 && !slices.Contains(steps[max(k-3, 0):min(k+2, len(steps))], synced) && k > 2 {
			continue
		}
		for way := range 3 {
			d := fresh()
			ops := d.Ops()
			d.Stop(k)
			is(t, what+": the power goes", call(d), api.ErrDead)
			if d.Ops() != ops+k || !d.Dead() {
				t.Errorf("%s: %d steps, not %d", what, d.Ops()-ops, k)
			}
			keep, want := stays(was, steps[:k], way)
			d.Crash(keep)
			has(t, what+": stopped at "+strconv.Itoa(k), d, want)
		}
	}
	d := fresh()
	ops := d.Ops()
	d.Stop(len(steps) + 1)
	is(t, what, call(d), api.OK)
	if d.Ops() != ops+len(steps) {
		t.Errorf("%s: %d steps, not %d", what, d.Ops()-ops, len(steps))
	}
	_, want := stays(was, steps, 2)
	has(t, what, d, want)
	d.Crash(nil)
	has(t, what+": synced", d, want)
}

// stays is a keep for what was not synced when the power went at the last of these steps, and the sectors behind
// that Crash: none (way 0), the last (1), or all (2) of it stay. If the last step is a Sync, it is not done.
func stays(was []string, steps []step, way int) ([]bool, []string) {
	now := slices.Clone(was)
	from := 0
	for i, s := range steps[:len(steps)-1] {
		if s == synced {
			from = i + 1
		}
	}
	for _, s := range steps[:from] {
		if s != synced {
			now[s.at] = full(s.s)
		}
	}
	var since []step
	for _, s := range steps[from:] {
		if s != synced {
			since = append(since, s)
		}
	}
	keep := make([]bool, len(since))
	for i, s := range since {
		keep[i] = way == 2 || way == 1 && i == len(since)-1
		if keep[i] {
			now[s.at] = full(s.s)
		}
	}
	return keep, now
}

// P301: what is written, where, in which order

func TestCommitSteps(t *testing.T) {
	short := []api.Put{put(405, "five"), put(401, ""), {At: 404}, put(402, "\x00\x00two\x00"), page(403), put(409, strings.Repeat("n", 503))}
	down := pages(401, 9)
	slices.Reverse(down)
	for _, c := range []struct {
		what    string
		sectors int
		l       []api.Put
	}{
		{"one page", 420, pages(410, 1)},
		{"the first home, the last", 402, pages(401, 1)},
		{"no bytes", 410, []api.Put{{At: 405}}},
		{"other lengths, no order", 410, short},
		{"from the last on", 410, down},
		{"the last sector of the greatest disk", 3000, []api.Put{page(2999), page(401)}},
		{"399 pages", 801, pages(402, 399)},
		{"400 pages", 801, pages(401, 400)},
	} {
		takes(t, c.what, func() *disk.Disk { return dirty(t, c.sectors) },
			func(d *disk.Disk) api.Errno { return redo.Commit(d, c.l) }, commitSteps(c.l))
	}
}

// Each sector behind a Commit, told by hand.
func TestCommitSectors(t *testing.T) {
	d := dirty(t, 420)
	want := image(t, d)
	e := redo.Commit(d, []api.Put{put(419, "last"), page(401), {At: 410}})
	is(t, "Commit", e, api.OK)
	want[0] = full("")
	want[1] = full("\xa3\x01\x00\x00\x00\x00\x00\x00last")
	want[2] = full("\x91\x01\x00\x00\x00\x00\x00\x00" + string(page(401).B))
	want[3] = full("\x9a\x01\x00\x00\x00\x00\x00\x00")
	want[419] = full("last")
	want[401] = full(string(page(401).B))
	want[410] = full("")
	has(t, "Commit", d, want)
	recovers(t, "behind a Commit", d, 0, api.OK)
	has(t, "Recover behind a Commit", d, want)

	d.Stop(6)
	is(t, "the power goes behind the head's Sync", redo.Commit(d, []api.Put{put(402, "x"), put(403, "y")}), api.ErrDead)
	d.Crash(nil)
	want[0] = full("TRIADLOG\x02\x00\x00\x00\x00\x00\x00\x00")
	want[1] = full("\x92\x01\x00\x00\x00\x00\x00\x00x")
	want[2] = full("\x93\x01\x00\x00\x00\x00\x00\x00y")
	has(t, "the head", d, want)

	d = disk.New(801)
	d.Stop(403)
	is(t, "400 pages", redo.Commit(d, pages(401, 400)), api.ErrDead)
	d.Crash([]bool{true})
	b, _ := d.Read(0)
	if string(b) != full("TRIADLOG\x90\x01\x00\x00\x00\x00\x00\x00") {
		t.Errorf("the head of 400 pages: %q", b[:24])
	}
}

// Writes and Syncs: 2n + 6 of n pages.
func TestCommitOps(t *testing.T) {
	for _, n := range []int{1, 2, 3, 100, 399, 400} {
		d := disk.New(900)
		is(t, "Commit", redo.Commit(d, pages(450, n)), api.OK)
		if d.Ops() != 2*n+6 {
			t.Errorf("%d pages: %d Writes and Syncs, not %d", n, d.Ops(), 2*n+6)
		}
	}
}

// A Commit begins as it is told to, whatever the log had.
func TestCommitOverLog(t *testing.T) {
	l := []api.Put{put(403, "new"), put(404, "newer")}
	takes(t, "over a log", func() *disk.Disk { return logged(t, 410, headOf(3), num(401), num(402), num(403)) },
		func(d *disk.Disk) api.Errno { return redo.Commit(d, l) }, commitSteps(l))
}

// P301: what may not be

func TestCommitFaults(t *testing.T) {
	many := func(n int) []api.Put { return append(pages(401, n-1), put(math.MinInt, "")) }
	long := func(n int) api.Put { return api.Put{At: 405, B: make([]byte, n)} }
	for _, c := range []struct {
		what string
		l    []api.Put
		want api.Errno
	}{
		{"no list", nil, api.ErrArg},
		{"an empty one", []api.Put{}, api.ErrArg},
		{"an empty one with room", pages(401, 3)[:0], api.ErrArg},
		{"401 pages", pages(401, 401), api.ErrMany},
		{"401 pages, one of them nowhere", many(401), api.ErrMany},
		{"402 pages, all at one place", slices.Repeat(pages(401, 1), 402), api.ErrMany},
		{"70000 pages", make([]api.Put, 70000), api.ErrMany},
		{"400 pages, the last of them nowhere", many(400), api.ErrArg},
		{"the head", pages(0, 1), api.ErrArg},
		{"the body", pages(1, 1), api.ErrArg},
		{"the body's last", pages(400, 1), api.ErrArg},
		{"behind the last", pages(900, 1), api.ErrArg},
		{"far behind", pages(3000, 1), api.ErrArg},
		{"below 0", pages(-1, 1), api.ErrArg},
		{"a home in the lowest bits", pages(1<<32+405, 1), api.ErrArg},
		{"the least number", pages(math.MinInt, 1), api.ErrArg},
		{"the greatest one", []api.Put{put(math.MaxInt, "")}, api.ErrArg},
		{"the second is none", []api.Put{page(405), page(400), page(406)}, api.ErrArg},
		{"the last is none", []api.Put{page(405), page(406), page(900)}, api.ErrArg},
		{"twice", []api.Put{page(405), page(405)}, api.ErrArg},
		{"twice, the same bytes or none", []api.Put{put(405, ""), put(406, ""), {At: 405}}, api.ErrArg},
		{"the last twice", []api.Put{page(405), page(899), page(407), page(899)}, api.ErrArg},
		{"the first and the 400th", append(pages(401, 399), page(401)), api.ErrArg},
		{"505 bytes", []api.Put{long(505)}, api.ErrArg},
		{"506 bytes", []api.Put{long(506)}, api.ErrArg},
		{"a sector", []api.Put{long(512)}, api.ErrArg},
		{"more than a sector", []api.Put{long(513)}, api.ErrArg},
		{"65536 + 504 bytes", []api.Put{long(1<<16 + 504)}, api.ErrArg},
		{"the last too long", []api.Put{page(401), page(402), long(505)}, api.ErrArg},
	} {
		d := dirty(t, 900)
		was, ops := image(t, d), d.Ops()
		is(t, c.what, redo.Commit(d, c.l), c.want)
		if d.Ops() != ops {
			t.Errorf("P5: %s: %d Writes and Syncs", c.what, d.Ops()-ops)
		}
		has(t, "P5: "+c.what, d, was)
		d.Stop(1)
		d.Sync()
		is(t, "P6: ahead of the power: "+c.what, redo.Commit(d, c.l), c.want)
	}
}

// A disk's size says where its homes are: of one of 401 sectors and fewer there are none.
func TestCommitSizes(t *testing.T) {
	for _, sectors := range []int{1, 2, 3, 100, 400, 401, 402, 403, 404, 801, 2999, 3000} {
		for _, at := range []int{0, 1, sectors - 2, sectors - 1, sectors, sectors + 1, 400, 401, 402, 3000} {
			d := disk.New(sectors)
			want := api.ErrArg
			if at >= 401 && at <= sectors-1 {
				want = api.OK
			}
			is(t, strconv.Itoa(at)+" of "+strconv.Itoa(sectors), redo.Commit(d, []api.Put{put(at, "b")}), want)
			if want != api.OK && d.Ops() != 0 {
				t.Errorf("P5: %d of %d: %d Writes and Syncs", at, sectors, d.Ops())
			}
		}
	}
}

// A place is that of one ahead within one list alone.
func TestCommitAgain(t *testing.T) {
	d := disk.New(410)
	is(t, "Commit", redo.Commit(d, []api.Put{put(401, "first"), put(402, "stays")}), api.OK)
	is(t, "Commit again", redo.Commit(d, []api.Put{put(401, "two")}), api.OK)
	all := image(t, d)
	if all[401] != full("two") || all[402] != full("stays") {
		t.Errorf("%q, %q", all[401][:8], all[402][:8])
	}
}

func TestDead(t *testing.T) {
	d := logged(t, 410, headOf(1), num(401)+"page")
	was := image(t, d)
	d.Stop(1)
	d.Sync()
	ops := d.Ops()
	is(t, "Commit", redo.Commit(d, pages(401, 2)), api.ErrDead)
	recovers(t, "no power", d, 0, api.ErrDead)
	if d.Ops() != ops {
		t.Errorf("without power: %d Writes and Syncs", d.Ops()-ops)
	}
	d.Crash([]bool{true, true, true})
	has(t, "P5: without power", d, was)
	d = disk.New(1)
	d.Stop(1)
	d.Sync()
	recovers(t, "no power, no log", d, 0, api.ErrDead)
}

// P302: what is written, where, in which order

func TestRecoverSteps(t *testing.T) {
	for _, c := range []struct {
		what    string
		sectors int
		l       []api.Put
	}{
		{"one page", 402, pages(401, 1)},
		{"three", 420, []api.Put{page(419), put(401, "one"), {At: 410}}},
		{"noughts at the beginning", 410, []api.Put{put(405, "\x00\x00\x00\x00\x00\x00\x00\x00five"), page(404)}},
		{"a home twice: the last of them", 410, []api.Put{page(405), put(406, "six"), put(405, "five")}},
		{"all in one home", 402, slices.Repeat(pages(401, 1), 5)},
		{"399 pages", 900, pages(501, 399)},
		{"400 pages", 801, pages(401, 400)},
		{"400 pages, fewer homes", 403, append(slices.Repeat(pages(401, 1), 399), page(402))},
	} {
		n := len(c.l)
		takes(t, c.what, func() *disk.Disk { return logged(t, c.sectors, headOf(n), bodies(c.l)...) },
			func(d *disk.Disk) api.Errno {
				got, e := redo.Recover(d)
				if e == api.OK && got != n || e != api.OK && got != 0 {
					t.Errorf("%s: %d, %v, not %d", c.what, got, e, n)
				}
				return e
			}, settleSteps(c.l))
	}
}

// Each sector behind a Recover, told by hand; the second finds nothing.
func TestRecoverSectors(t *testing.T) {
	most := strings.Repeat("m", 503) + "!"
	d := logged(t, 410, headOf(2)+strings.Repeat("?", 496), num(409)+most, num(401)+"b\x00", num(405)+"not of it")
	want := image(t, d)
	ops := d.Ops()
	recovers(t, "two pages", d, 2, api.OK)
	want[0], want[409], want[401] = full(""), full(most), full("b\x00")
	has(t, "two pages", d, want)
	recovers(t, "again", d, 0, api.OK)
	has(t, "again", d, want)
	if d.Ops() != ops+5 {
		t.Errorf("%d Writes and Syncs, not 5", d.Ops()-ops)
	}
	d.Crash(nil)
	has(t, "synced", d, want)
}

// P302: where there is nothing to do

func TestRecoverNone(t *testing.T) {
	for what, head := range map[string]string{
		"noughts":                 "",
		"other bytes":             strings.Repeat("#", 512),
		"its first sign is other": "tRIADLOG" + num(1),
		"its last sign is other":  "TRIADLOg" + num(1),
		"its last sign lacks":     "TRIADLO" + num(1),
		"a sign ahead":            " TRIADLOG" + num(1),
		"a nought ahead":          "\x00TRIADLOG" + num(1),
		"the wrong way round":     "GOLDAIRT" + num(1),
		"signs ahead of a number": "TRIADLOGS!" + num(1),
		"the number alone":        num(1),
		"the number ahead":        num(1) + "TRIADLOG",
		"no number":               "TRIADLOG",
		"0":                       headOf(0),
		"-1":                      headOf(-1),
		"-400":                    headOf(-400),
		"401":                     headOf(401),
		"402":                     headOf(402),
		"65537":                   headOf(1<<16 + 1),
		"1, and more far up":      headOf(1<<32 + 1),
		"1, and more at the top":  headOf(1<<56 + 1),
		"1, and the sign":         headOf(math.MinInt + 1),
		"the least":               headOf(math.MinInt),
		"the greatest":            headOf(math.MaxInt),
		"the highest byte first":  "TRIADLOG\x00\x00\x00\x00\x00\x00\x00\x01",
		"a number as a text":      "TRIADLOG001",
	} {
		d := logged(t, 900, head, num(401)+"page", num(402)+"page")
		leaves(t, what, d, api.OK)
	}
}

// leaves tells a fault where Recover answers another error, or writes anything.
func leaves(t *testing.T, what string, d *disk.Disk, e api.Errno) {
	t.Helper()
	was, ops := image(t, d), d.Ops()
	recovers(t, what, d, 0, e)
	has(t, what, d, was)
	if d.Ops() != ops {
		t.Errorf("%s: %d Writes and Syncs", what, d.Ops()-ops)
	}
}

// A head's number goes with the disk's size: with n sectors behind the head it is one, with fewer none.
func TestRecoverSizes(t *testing.T) {
	for _, sectors := range []int{1, 2, 3, 4, 50, 399, 400, 401, 402, 403, 800, 801, 3000} {
		for _, n := range []int{1, 2, 3, 49, 50, 398, 399, 400, 401, sectors - 2, sectors - 1, sectors, sectors + 1} {
			body := slices.Repeat([]string{num(401) + "page"}, sectors-1)
			d := logged(t, sectors, headOf(n), body...)
			ops := d.Ops()
			want, e, steps := n, api.OK, n+3
			switch {
			case n < 1 || n > 400 || n > sectors-1:
				want, steps = 0, 0
			case sectors < 402:
				want, e, steps = 0, api.ErrBad, 0
			}
			recovers(t, strconv.Itoa(n)+" of "+strconv.Itoa(sectors), d, want, e)
			if d.Ops() != ops+steps {
				t.Errorf("%d of %d: %d Writes and Syncs, not %d", n, sectors, d.Ops()-ops, steps)
			}
		}
	}
}

func TestRecoverNew(t *testing.T) {
	for _, sectors := range []int{1, 2, 401, 402, 3000} {
		d := disk.New(sectors)
		recovers(t, "a new disk", d, 0, api.OK)
		if d.Ops() != 0 {
			t.Errorf("a new disk: %d Writes and Syncs", d.Ops())
		}
	}
}

// P302: a number in the body that is no home

func TestRecoverBad(t *testing.T) {
	good := []string{num(401) + "one", num(409) + "two", num(405) + "three"}
	for what, number := range map[string]string{
		"noughts":                "",
		"1":                      num(1),
		"400":                    num(400),
		"the disk's size":        num(410),
		"far behind":             num(3000),
		"-1":                     num(-1),
		"-401":                   num(-401),
		"401, and more far up":   num(1<<32 + 401),
		"401, and more":          num(1<<16 + 401),
		"401, and more at top":   num(1<<56 + 401),
		"401, and the sign":      num(math.MinInt + 401),
		"the least":              num(math.MinInt),
		"the greatest":           num(math.MaxInt),
		"the highest byte first": "\x00\x00\x00\x00\x00\x00\x01\x91",
		"a sign":                 "#",
		"a nought ahead":         "\x00" + num(401),
	} {
		for i := range good {
			body := slices.Clone(good)
			body[i] = number
			d := logged(t, 410, headOf(3), body...)
			leaves(t, "P5: "+what, d, api.ErrBad)
			recovers(t, "once more: "+what, d, 0, api.ErrBad)
			d = logged(t, 410, headOf(i), body...)
			recovers(t, "those ahead of it: "+what, d, i, api.OK)
		}
	}
	body := slices.Repeat([]string{num(401)}, 400)
	body[399] = num(400)
	recovers(t, "the 400th", logged(t, 801, headOf(400), body...), 0, api.ErrBad)
	recovers(t, "399 ahead of it", logged(t, 801, headOf(399), body...), 399, api.OK)
}

// A log that may not be stands against no Commit.
func TestCommitOverBad(t *testing.T) {
	d := logged(t, 410, headOf(1), num(7))
	recovers(t, "a bad log", d, 0, api.ErrBad)
	is(t, "Commit", redo.Commit(d, pages(401, 1)), api.OK)
	recovers(t, "behind it", d, 0, api.OK)
}

// P303

// walk is a row of choices; next goes on to the next row, till all were gone through.
type walk struct {
	taken, of []int
	at        int
}

func (w *walk) pick(k int) int {
	if w.at == len(w.taken) {
		w.taken, w.of = append(w.taken, 0), append(w.of, k)
	}
	w.at++
	return w.taken[w.at-1]
}

func (w *walk) next() bool {
	w.at = 0
	for i := len(w.taken) - 1; i >= 0; i-- {
		if w.taken[i]++; w.taken[i] < w.of[i] {
			w.taken, w.of = w.taken[:i+1], w.of[:i+1]
			return true
		}
	}
	return false
}

// crash lays any of n Writes over what was synced.
func (w *walk) crash(d *disk.Disk, n int) {
	bits := w.pick(1 << n)
	keep := make([]bool, n)
	for i := range keep {
		keep[i] = bits>>i&1 == 1
	}
	d.Crash(keep)
}

// homes are the first bytes of some.
func homes(t *testing.T, d *disk.Disk, at ...int) string {
	t.Helper()
	var out []byte
	for _, k := range at {
		b, e := d.Read(k)
		if e != api.OK {
			t.Fatal(e)
		}
		out = append(out, b[0])
	}
	return string(out)
}

// Every way that the power may go in a Commit, in the Recover behind it, and so on, whichever Writes stay.
func TestWhole(t *testing.T) {
	for _, c := range []struct {
		old, fresh []api.Put
		rounds     int
	}{
		{[]api.Put{put(401, "a")}, []api.Put{put(401, "x")}, 3},
		{[]api.Put{put(401, "a"), put(402, "b"), put(403, "c")}, []api.Put{put(402, "x"), put(404, "y")}, 2},
		{[]api.Put{put(403, "a")}, []api.Put{put(404, "x"), put(401, "y"), put(403, "z")}, 1},
	} {
		none, all := outcomes(t, c.old, c.fresh)
		w := &walk{}
		for more := true; more; more = w.next() {
			d, done := broken(t, w, c.old, c.fresh, c.rounds)
			recovers(t, "again", d, 0, api.OK)
			d.Crash(nil)
			got := homes(t, d, 401, 402, 403, 404)
			if got != all && (got != none || done) {
				t.Fatalf("P303: %v: %q, not %q or %q", w.taken, got, all, none)
			}
		}
	}
}

// outcomes are the homes with none of the new pages, and with all.
func outcomes(t *testing.T, old, fresh []api.Put) (none, all string) {
	t.Helper()
	d := disk.New(405)
	is(t, "Commit of the old", redo.Commit(d, old), api.OK)
	none = homes(t, d, 401, 402, 403, 404)
	is(t, "Commit of the new", redo.Commit(d, fresh), api.OK)
	return none, homes(t, d, 401, 402, 403, 404)
}

// broken is a disk on which a Commit of the new pages was broken off, and Recover, so many times, till it answered
// OK; and whether the new pages must be there.
func broken(t *testing.T, w *walk, old, fresh []api.Put, rounds int) (*disk.Disk, bool) {
	d := disk.New(405)
	redo.Commit(d, old)
	n := len(fresh)
	d.Stop(w.pick(2*n + 7))
	done := redo.Commit(d, fresh) == api.OK
	for {
		if d.Dead() {
			w.crash(d, n)
		}
		if rounds > 0 {
			d.Stop(w.pick(n + 4))
		}
		rounds--
		got, e := redo.Recover(d)
		d.Stop(0)
		if e == api.OK {
			return d, done || got > 0
		}
		is(t, "P303: Recover", e, api.ErrDead)
	}
}

// So many pages as there may be, the power going wherever it is thrown, whichever Writes are.
func TestWholeMany(t *testing.T) {
	old := pages(401, 400)
	for seed := range uint64(150) {
		r := &die{seed}
		n := 1 + r.of(400)
		fresh := pages(401+r.of(401-n), n)
		for i := range fresh {
			fresh[i].B = []byte("new " + strconv.Itoa(i))
		}
		d := disk.New(802)
		is(t, "Commit of the old", redo.Commit(d, old), api.OK)
		none := image(t, d)[401:]
		all := slices.Clone(none)
		for _, p := range fresh {
			all[p.At-401] = full(string(p.B))
		}
		d.Stop(1 + r.of(2*n+6))
		redo.Commit(d, fresh)
		for rounds := 0; ; rounds++ {
			d.Crash(r.keep(n))
			if rounds < 3 {
				d.Stop(1 + r.of(n+3))
			}
			if _, e := redo.Recover(d); e == api.OK {
				break
			}
		}
		d.Crash(nil)
		if got := image(t, d)[401:]; !slices.Equal(got, none) && !slices.Equal(got, all) {
			t.Errorf("P303: seed %d: %d pages: some of them", seed, n)
		}
	}
}

// die throws.
type die struct{ n uint64 }

func (d *die) of(k int) int {
	d.n = d.n*6364136223846793005 + 1442695040888963407
	return int(d.n>>33) % k
}

func (d *die) keep(n int) []bool {
	keep := make([]bool, d.of(n+3))
	some := 1 + d.of(8)
	for i := range keep {
		keep[i] = d.of(8) < some
	}
	return keep
}

// P2

func TestHandedIn(t *testing.T) {
	room := bytes.Repeat([]byte{7}, 2048)
	l := make([]api.Put, 0, 8)
	l = append(l, api.Put{At: 401, B: room[:3]}, api.Put{At: 402, B: room[100:604]}, api.Put{At: 403, B: room[700:700]})
	spare := l[:8]
	spare[3] = put(409, "spare")
	before, was := slices.Clone(room), slices.Clone(spare)
	d := disk.New(410)
	is(t, "Commit", redo.Commit(d, l), api.OK)
	is(t, "Commit of one", redo.Commit(d, l[:1]), api.OK)
	is(t, "one too long", redo.Commit(d, []api.Put{{At: 401, B: room[:505]}}), api.ErrArg)
	if !bytes.Equal(room, before) {
		t.Error("P2: a page's bytes, or their room, were changed")
	}
	for i := range spare {
		if spare[i].At != was[i].At || len(spare[i].B) != len(was[i].B) || cap(spare[i].B) != cap(was[i].B) {
			t.Errorf("P2: element %d of the list was changed", i)
		}
	}
	want := image(t, d)
	for i := range room {
		room[i] = 9
	}
	l[0].At = 409
	has(t, "P2: the list is not kept", d, want)
	d.Crash(nil)
	has(t, "P2: nor behind a crash", d, want)
	if want[401] != full("\x07\x07\x07") || want[402] != full(string(before[100:604])) || want[403] != full("") {
		t.Errorf("%q, %q, %q", want[401][:8], want[402][:8], want[403][:8])
	}
}

// P3, P5, P7 and the promises' own words

// plainCommit and plainRecover do by steps what Commit and Recover do.
func plainCommit(d *disk.Disk, l []api.Put) api.Errno {
	if len(l) == 0 {
		return api.ErrArg
	}
	if len(l) > 400 {
		return api.ErrMany
	}
	ahead := map[int]bool{}
	for _, p := range l {
		if p.At < 401 || p.At > d.Size()-1 || ahead[p.At] || len(p.B) > 504 {
			return api.ErrArg
		}
		ahead[p.At] = true
	}
	return run(d, commitSteps(l))
}

func plainRecover(d *disk.Disk) (int, api.Errno) {
	head, e := d.Read(0)
	if e != api.OK {
		return 0, e
	}
	n := 1
	for n <= 400 && !strings.HasPrefix(string(head), headOf(n)) {
		n++
	}
	if n > 400 || n > d.Size()-1 {
		return 0, api.OK
	}
	var l []api.Put
	for at := 1; at <= n; at++ {
		b, e := d.Read(at)
		if e != api.OK {
			return 0, e
		}
		home := binary.LittleEndian.Uint64(b)
		if home < 401 || home > uint64(d.Size()-1) {
			return 0, api.ErrBad
		}
		l = append(l, api.Put{At: int(home), B: b[8:]})
	}
	if e := run(d, settleSteps(l)); e != api.OK {
		return 0, e
	}
	return n, api.OK
}

// run takes steps till one answers an error.
func run(d *disk.Disk, steps []step) api.Errno {
	for _, s := range steps {
		e := api.OK
		if s == synced {
			e = d.Sync()
		} else {
			e = d.Write(s.at, []byte(s.s))
		}
		if e != api.OK {
			return e
		}
	}
	return api.OK
}

// thrownList is any list, most of them such that a Commit takes it.
func thrownList(r *die, sectors int) []api.Put {
	var l []api.Put
	n := r.of(6)
	for i := range n {
		p := api.Put{At: 401 + (i*7+r.of(7))%max(sectors-401, 1), B: bytes.Repeat([]byte{byte('a' + r.of(26))}, r.of(505))}
		switch r.of(60) {
		case 0:
			p.At = r.of(402)
		case 1:
			p.B = make([]byte, 505+r.of(9))
		case 2:
			p.At += sectors
		}
		l = append(l, p)
	}
	return l
}

// scribble writes what looks like a log, or nearly.
func scribble(r *die, d *disk.Disk) {
	d.Write(0, []byte(headOf(r.of(6)-1)))
	for at := 1; at < 5; at++ {
		d.Write(at, []byte(num(399+r.of(d.Size()-397))+strings.Repeat("s", r.of(505))))
	}
}

// play does any calls on a disk, and tells all that they answered.
func play(seed uint64, commit func(*disk.Disk, []api.Put) api.Errno, mend func(*disk.Disk) (int, api.Errno)) string {
	r := &die{seed}
	d := disk.New(402 + r.of(40))
	var told []string
	for range 25 {
		n, e := 0, api.OK
		switch r.of(8) {
		case 0:
			d.Stop(r.of(20))
		case 1:
			d.Crash(r.keep(6))
		case 2:
			scribble(r, d)
		case 3, 4, 5:
			n, e = mend(d)
		default:
			e = commit(d, thrownList(r, d.Size()))
		}
		told = append(told, strconv.Itoa(n), e.Error(), strconv.Itoa(d.Ops()), strconv.FormatBool(d.Dead()))
	}
	d.Crash(r.keep(6))
	for at := range d.Size() {
		b, _ := d.Read(at)
		told = append(told, strings.TrimRight(string(b), "\x00"))
	}
	return strings.Join(told, " ")
}

// FuzzRedo: P1, P3, P301, P302: any calls, twice the same way, and as the plain ones.
func FuzzRedo(f *testing.F) {
	for seed := range uint64(500) {
		f.Add(seed)
	}
	f.Fuzz(func(t *testing.T, seed uint64) {
		got, again, want := play(seed, redo.Commit, redo.Recover), play(seed, redo.Commit, redo.Recover), play(seed, plainCommit, plainRecover)
		if got != again {
			t.Errorf("P3: %d: %q, %q", seed, got, again)
		}
		if got != want {
			t.Errorf("%d: %q, not %q", seed, got, want)
		}
	})
}

// FuzzRecover: P1, P302: of any disk.
func FuzzRecover(f *testing.F) {
	f.Add(uint16(410), []byte(headOf(1)), []byte(num(401)))
	f.Add(uint16(410), []byte(headOf(2)), []byte(num(409)+"page"))
	f.Add(uint16(410), []byte(headOf(400)), []byte(num(400)))
	f.Add(uint16(3), []byte(headOf(2)), []byte(num(2)))
	f.Add(uint16(3), []byte(headOf(3)), []byte(num(2)))
	f.Add(uint16(0), []byte("TRIADLOG"), []byte(""))
	f.Add(uint16(801), []byte(headOf(400)), []byte(num(800)))
	f.Fuzz(func(t *testing.T, sectors uint16, head, body []byte) {
		a, b := disk.New(int(sectors)), disk.New(int(sectors))
		for _, d := range []*disk.Disk{a, b} {
			d.Write(0, head)
			for at := 1; at < d.Size() && at < 401; at++ {
				d.Write(at, body)
			}
		}
		n, e := redo.Recover(a)
		m, g := plainRecover(b)
		if n != m || e != g || a.Ops() != b.Ops() {
			t.Errorf("%d, %v, not %d, %v", n, e, m, g)
		}
		has(t, "Recover", a, image(t, b))
	})
}

func TestSideBySide(t *testing.T) {
	a, b := disk.New(410), disk.New(410)
	is(t, "Commit", redo.Commit(a, []api.Put{put(401, "a")}), api.OK)
	has(t, "P7", b, slices.Repeat([]string{full("")}, 410))
	b.Stop(4)
	is(t, "Commit", redo.Commit(b, []api.Put{put(401, "b")}), api.ErrDead)
	recovers(t, "P7", a, 0, api.OK)
	b.Crash([]bool{true})
	recovers(t, "P7", b, 1, api.OK)
	if homes(t, a, 401) != "a" || homes(t, b, 401) != "b" {
		t.Errorf("P7: %q, %q", homes(t, a, 401), homes(t, b, 401))
	}
	var all sync.WaitGroup
	for seed := range uint64(8) {
		want := play(seed, redo.Commit, redo.Recover)
		for range 2 {
			all.Go(func() {
				if play(seed, redo.Commit, redo.Recover) != want {
					t.Error("P7: side by side")
				}
			})
		}
	}
	all.Wait()
}
