package disk_test

import (
	"bytes"
	"math"
	"slices"
	"strings"
	"sync"
	"testing"

	"triad/api"
	"triad/disk"
)

// full is a sector as it is read: s, with noughts behind.
func full(s string) string { return s + strings.Repeat("\x00", api.Sector-len(s)) }

// has tells a fault where a disk's sectors, from 0 on, are others.
func has(t *testing.T, what string, d *disk.Disk, want ...string) {
	t.Helper()
	for at, s := range want {
		b, e := d.Read(at)
		if e != api.OK || string(b) != full(s) {
			t.Errorf("%s: sector %d: %d bytes, %q, %v, not %q", what, at, len(b), clip(b), e, s)
		}
	}
}

func clip(b []byte) []byte { return b[:min(len(b), 16)] }

// is tells a fault where an error is another one.
func is(t *testing.T, what string, got, want api.Errno) {
	t.Helper()
	if got != want {
		t.Errorf("%s: %v, not %v", what, got, want)
	}
}

// tells tells a fault where a disk's Ops and Dead are others.
func tells(t *testing.T, what string, d *disk.Disk, ops int, dead bool) {
	t.Helper()
	if d.Ops() != ops || d.Dead() != dead {
		t.Errorf("%s: Ops %d, Dead %v, not %d, %v", what, d.Ops(), d.Dead(), ops, dead)
	}
}

// put writes what must be written with OK.
func put(t *testing.T, d *disk.Disk, at int, s string) {
	t.Helper()
	is(t, "Write "+s, d.Write(at, []byte(s)), api.OK)
}

// P201: New, Size

func TestNewSize(t *testing.T) {
	for _, c := range []struct{ sectors, want int }{
		{math.MinInt, 1}, {-1, 1}, {0, 1}, {1, 1}, {2, 2}, {401, 401}, {2999, 2999}, {3000, 3000}, {3001, 3000}, {math.MaxInt, 3000},
	} {
		d := disk.New(c.sectors)
		if d.Size() != c.want {
			t.Errorf("New(%d): Size %d, not %d", c.sectors, d.Size(), c.want)
		}
		tells(t, "New", d, 0, false)
		has(t, "New", d, make([]string, c.want)...)
		_, e := d.Read(c.want)
		is(t, "behind the last one", e, api.ErrArg)
		is(t, "the last one", d.Write(c.want-1, []byte("x")), api.OK)
		is(t, "behind it", d.Write(c.want, []byte("x")), api.ErrArg)
	}
}

// P201: Read, Write

func TestWriteRead(t *testing.T) {
	most := strings.Repeat("m", api.Sector)
	d := disk.New(3)
	put(t, d, 0, "first")
	put(t, d, 2, most)
	has(t, "two written", d, "first", "", most)
	put(t, d, 2, most[1:])
	has(t, "a nought behind", d, "first", "", most[1:])
	put(t, d, 2, "a\x00b")
	put(t, d, 0, "f")
	has(t, "noughts within, noughts behind", d, "f", "", "a\x00b")
	put(t, d, 1, "\x00\x00")
	put(t, d, 2, "")
	is(t, "Write of nil", d.Write(0, nil), api.OK)
	has(t, "noughts", d, "", "", "")
	tells(t, "all of them", d, 8, false)
}

func TestNoSector(t *testing.T) {
	d := disk.New(3)
	put(t, d, 0, "a")
	put(t, d, 2, "c")
	for _, at := range []int{math.MinInt, -512, -1, 3, 4, 512, 3000, 1 << 32, math.MaxInt} {
		b, e := d.Read(at)
		is(t, "Read", e, api.ErrArg)
		if len(b) != 0 {
			t.Errorf("P4: Read %d: %d bytes beside the error", at, len(b))
		}
		is(t, "Write", d.Write(at, []byte("x")), api.ErrArg)
		is(t, "Write of nil", d.Write(at, nil), api.ErrArg)
	}
	tells(t, "P5", d, 2, false)
	has(t, "P5", d, "a", "", "c")
}

func TestWriteTooMany(t *testing.T) {
	d := disk.New(1)
	put(t, d, 0, "a")
	for _, n := range []int{api.Sector + 1, 2 * api.Sector, 1 << 16, 1<<16 + 1} {
		is(t, "too many bytes", d.Write(0, make([]byte, n)), api.ErrArg)
	}
	is(t, "too many bytes, no sector", d.Write(1, make([]byte, api.Sector+1)), api.ErrArg)
	tells(t, "P5", d, 1, false)
	has(t, "P5", d, "a")
	d.Crash([]bool{true, true, true, true, true, true})
	has(t, "P5: they have no place in keep", d, "a")
}

// P201: Sync, Ops

func TestSyncOps(t *testing.T) {
	d := disk.New(2)
	is(t, "Sync of nothing", d.Sync(), api.OK)
	tells(t, "a Sync", d, 1, false)
	put(t, d, 0, "a")
	put(t, d, 1, "b")
	tells(t, "two Writes", d, 3, false)
	is(t, "Sync", d.Sync(), api.OK)
	tells(t, "a Sync", d, 4, false)
	d.Read(0)
	d.Read(2)
	d.Write(2, nil)
	d.Write(0, make([]byte, 513))
	d.Size()
	d.Stop(5)
	tells(t, "what is none", d, 4, false)
	has(t, "synced", d, "a", "b")
	d.Crash([]bool{true})
	tells(t, "Crash", d, 4, false)
	has(t, "Crash", d, "a", "b")
}

// P201: Stop, Dead

func TestStopWrite(t *testing.T) {
	for _, n := range []int{1, 2, 3, 4, 5, 256, 257, 1000, 70000} {
		d := disk.New(6)
		d.Stop(n)
		for i := range n - 1 {
			put(t, d, i%5, "w")
		}
		tells(t, "ahead of the Stop", d, n-1, false)
		is(t, "the Write", d.Write(5, []byte("last")), api.ErrDead)
		tells(t, "at the Stop", d, n, true)
		d.Crash(nil)
		has(t, "nothing stays", d, make([]string, 6)...)
		tells(t, "Crash", d, n, false)
	}
	d := disk.New(1)
	d.Stop(1)
	is(t, "the Write", d.Write(0, []byte("done")), api.ErrDead)
	d.Crash([]bool{true})
	has(t, "it is done, and may stay", d, "done")
}

func TestStopSync(t *testing.T) {
	for n := 1; n < 6; n++ {
		d := disk.New(1)
		put(t, d, 0, "a")
		is(t, "a Sync", d.Sync(), api.OK)
		put(t, d, 0, "b")
		d.Stop(n)
		for range n - 1 {
			put(t, d, 0, "c")
		}
		is(t, "the Sync", d.Sync(), api.ErrDead)
		tells(t, "at the Stop", d, 3+n, true)
		d.Crash([]bool{true})
		has(t, "it is not done: the first Write may stay alone", d, "b")
	}
	d := disk.New(1)
	put(t, d, 0, "a")
	d.Stop(1)
	d.Sync()
	d.Crash(nil)
	has(t, "it is not done: nothing stays", d, "")
}

func TestDead(t *testing.T) {
	d := disk.New(2)
	put(t, d, 0, "a")
	d.Stop(1)
	is(t, "the Write", d.Write(1, []byte("b")), api.ErrDead)
	for _, at := range []int{0, 1, -1, 2, math.MaxInt} {
		b, e := d.Read(at)
		is(t, "Read", e, api.ErrDead)
		if len(b) != 0 {
			t.Errorf("P4: Read %d: %d bytes beside the error", at, len(b))
		}
		is(t, "P6: Write", d.Write(at, []byte("x")), api.ErrDead)
		is(t, "P6: Write of too many", d.Write(at, make([]byte, 513)), api.ErrDead)
		is(t, "Sync", d.Sync(), api.ErrDead)
	}
	if d.Size() != 2 {
		t.Errorf("Size: %d", d.Size())
	}
	d.Stop(3)
	d.Stop(0)
	tells(t, "these do not count", d, 2, true)
	d.Stop(1)
	d.Crash([]bool{true, true, true, true})
	tells(t, "Crash", d, 2, false)
	has(t, "P5: nothing of them was done", d, "a", "b")
	is(t, "no Stop is set", d.Sync(), api.OK)
}

func TestStopNone(t *testing.T) {
	for _, n := range []int{0, -1, -2, math.MinInt, 11, math.MaxInt} {
		d := disk.New(1)
		d.Stop(n)
		for range 5 {
			put(t, d, 0, "a")
			is(t, "Sync", d.Sync(), api.OK)
		}
		tells(t, "no Stop came", d, 10, false)
	}
}

func TestStopLater(t *testing.T) {
	for _, c := range []struct{ first, then, later, at int }{
		{1, 0, 3, 3}, {3, 0, 1, 1}, {3, 2, 3, 3}, {5, 2, 1, 1}, {2, 1, math.MinInt, 0}, {1, 0, 0, 0}, {1, 0, -1, 0}, {-1, 4, 2, 2}, {math.MaxInt, 4, 2, 2}, {4, 2, 4, 4},
	} {
		d := disk.New(1)
		d.Stop(c.first)
		for range c.then {
			put(t, d, 0, "a")
		}
		d.Stop(c.later)
		for n := 1; n <= 8; n++ {
			want := api.OK
			if c.at > 0 && n >= c.at {
				want = api.ErrDead
			}
			is(t, "behind the later Stop", d.Write(0, nil), want)
		}
	}
}

// What would not answer OK does not count for a Stop, nor does a Read.
func TestStopCounts(t *testing.T) {
	d := disk.New(1)
	d.Stop(2)
	is(t, "no sector", d.Write(1, nil), api.ErrArg)
	is(t, "no sector", d.Write(-1, nil), api.ErrArg)
	is(t, "too many bytes", d.Write(0, make([]byte, 513)), api.ErrArg)
	d.Read(0)
	d.Read(1)
	put(t, d, 0, "a")
	is(t, "no sector, at the Stop", d.Write(1, nil), api.ErrArg)
	is(t, "too many bytes, at the Stop", d.Write(0, make([]byte, 513)), api.ErrArg)
	tells(t, "the power is there", d, 1, false)
	is(t, "the second", d.Sync(), api.ErrDead)
	tells(t, "it is gone", d, 2, true)
}

// A Stop is one: behind it, and a Crash, all goes on, and another may be set.
func TestStopOnce(t *testing.T) {
	d := disk.New(1)
	for n := range 4 {
		d.Stop(2)
		put(t, d, 0, "a")
		is(t, "the second", d.Write(0, []byte("b")), api.ErrDead)
		d.Crash([]bool{true, true})
		has(t, "both stay", d, "b")
		for range 5 {
			is(t, "no Stop is set", d.Sync(), api.OK)
		}
		tells(t, "Ops go on", d, 7*(n+1), false)
	}
	d.Stop(1)
	d.Crash(nil)
	put(t, d, 0, "c")
	tells(t, "Crash took the Stop away", d, 29, false)
}

// P202

// Writes a, b, c, d (to sectors 0, 1, 0, 2), over synced S, T, U.
func crashed(t *testing.T, keep []bool) *disk.Disk {
	t.Helper()
	d := disk.New(3)
	for at, s := range []string{"S", "T", "U"} {
		put(t, d, at, s)
	}
	is(t, "Sync", d.Sync(), api.OK)
	for i, at := range []int{0, 1, 0, 2} {
		put(t, d, at, string(rune('a'+i)))
	}
	d.Crash(keep)
	return d
}

func TestCrashKeep(t *testing.T) {
	const o, x = false, true
	for _, c := range []struct {
		keep []bool
		want string
	}{
		{nil, "STU"}, {[]bool{}, "STU"}, {[]bool{o, o, o, o}, "STU"}, {[]bool{o, o, o, o, x, x}, "STU"},
		{[]bool{x}, "aTU"}, {[]bool{o, x}, "SbU"}, {[]bool{x, x}, "abU"}, {[]bool{x, x, o}, "abU"},
		{[]bool{o, o, x}, "cTU"}, {[]bool{x, o, x}, "cTU"}, {[]bool{x, o, x, x}, "cTd"}, {[]bool{x, o, o, x}, "aTd"},
		{[]bool{o, o, o, x}, "STd"}, {[]bool{x, x, x, x}, "cbd"}, {[]bool{x, x, x, x, o, x, x}, "cbd"}, {[]bool{o, x, x, o}, "cbU"},
	} {
		d := crashed(t, c.keep)
		want := strings.Split(c.want, "")
		tells(t, "Crash", d, 8, false)
		has(t, "Crash", d, want...)
		d.Crash([]bool{true, true, true, true})
		has(t, "all that is synced: a Crash behind it", d, want...)
		put(t, d, 1, "new")
		d.Crash([]bool{true})
		want[1] = "new"
		has(t, "places are counted from the Crash on", d, want...)
	}
}

// All that a keep of four can say, held against the promise's own words.
func TestCrashEvery(t *testing.T) {
	for n := range 16 {
		keep := make([]bool, 4)
		want := []string{"S", "T", "U"}
		for i, at := range []int{0, 1, 0, 2} {
			if keep[i] = n>>i&1 == 1; keep[i] {
				want[at] = string(rune('a' + i))
			}
		}
		has(t, "Crash", crashed(t, keep), want...)
	}
}

// Of several Writes to one sector the last that stays is it, though a later one that does not was read.
func TestCrashOneSector(t *testing.T) {
	d := disk.New(1)
	put(t, d, 0, "one and more")
	put(t, d, 0, "two")
	put(t, d, 0, "three")
	has(t, "ahead of it", d, "three")
	d.Crash([]bool{true, true, false})
	has(t, "the second, with noughts behind", d, "two")
	put(t, d, 0, "four")
	put(t, d, 0, "")
	d.Crash([]bool{true, true})
	has(t, "noughts are a Write too", d, "")
}

func TestCrashSynced(t *testing.T) {
	d := disk.New(2)
	put(t, d, 0, "a")
	is(t, "Sync", d.Sync(), api.OK)
	put(t, d, 1, "b")
	d.Crash([]bool{false, true})
	has(t, "places are counted from the Sync on", d, "a", "")
	d.Stop(2)
	put(t, d, 1, "c")
	is(t, "a Sync at the Stop", d.Sync(), api.ErrDead)
	is(t, "a Sync without power", d.Sync(), api.ErrDead)
	d.Crash([]bool{true})
	has(t, "these Syncs are none", d, "a", "c")
}

// P203

func TestSyncedStays(t *testing.T) {
	d := disk.New(3)
	put(t, d, 0, "stays")
	put(t, d, 1, "over")
	is(t, "Sync", d.Sync(), api.OK)
	for range 3 {
		put(t, d, 1, "lost")
		put(t, d, 2, "lost too")
		d.Stop(1)
		d.Sync()
		d.Crash(nil)
		has(t, "what was synced", d, "stays", "over", "")
	}
	put(t, d, 1, "written over")
	d.Stop(1)
	d.Write(2, []byte("kept"))
	d.Crash([]bool{true, true})
	has(t, "till it is written over", d, "stays", "written over", "kept")
	d.Crash(nil)
	has(t, "that stays as well", d, "stays", "written over", "kept")
}

// P2

func TestHandedIn(t *testing.T) {
	room := bytes.Repeat([]byte{7}, 1024)
	before := string(room)
	d := disk.New(2)
	is(t, "Write", d.Write(0, room[:3]), api.OK)
	is(t, "Write", d.Write(1, room[:512]), api.OK)
	is(t, "Write", d.Write(1, room[:513]), api.ErrArg)
	keep := []bool{true, true, false, true}
	for i := range room[:600] {
		room[i] = 9
	}
	has(t, "P2: what was written is not kept", d, before[:3], before[:512])
	d.Crash(keep[:2])
	has(t, "P2: nor in what stays", d, before[:3], before[:512])
	if !slices.Equal(keep, []bool{true, true, false, true}) || string(room[600:]) != before[600:] || room[599] != 9 {
		t.Error("P2: what was handed in was changed")
	}
	put(t, d, 0, "new")
	keep[0] = false
	d.Sync()
	d.Crash(nil)
	has(t, "P2: keep is not kept", d, "new")
}

func TestReadOwnMemory(t *testing.T) {
	d := disk.New(2)
	put(t, d, 0, "abc")
	d.Sync()
	for _, at := range []int{0, 1} {
		a, _ := d.Read(at)
		b, _ := d.Read(at)
		spoil(a)
		if at == 0 && string(b) != full("abc") || at == 1 && string(b) != full("") {
			t.Errorf("P2: two answers share memory: %q", clip(b))
		}
		spoil(b)
	}
	has(t, "P2: an answer is new memory", d, "abc", "")
	a, _ := d.Read(0)
	put(t, d, 0, "def")
	if string(a) != full("abc") {
		t.Errorf("P2: a later Write changed an answer: %q", clip(a))
	}
	d.Crash(nil)
	has(t, "P2: nor is it what was synced", d, "abc", "")
}

// spoil writes over an answer, its spare room too.
func spoil(b []byte) {
	b = b[:cap(b)]
	for i := range b {
		b[i] = 'x'
	}
}

// P7

func TestSideBySide(t *testing.T) {
	a, b := disk.New(2), disk.New(2)
	if a == b {
		t.Fatal("P7: one disk for two")
	}
	put(t, a, 0, "a")
	put(t, b, 0, "b")
	put(t, b, 1, "c")
	b.Sync()
	b.Stop(1)
	has(t, "P7", a, "a", "")
	is(t, "P7", a.Write(1, []byte("d")), api.OK)
	b.Write(0, nil)
	a.Crash([]bool{false, true})
	has(t, "P7", a, "", "d")
	tells(t, "P7", a, 2, false)
	tells(t, "P7", b, 4, true)
	b.Crash(nil)
	has(t, "P7", b, "b", "c")

	var all sync.WaitGroup
	want := play([]byte("many ways to go through a disk, side by side"))
	for range 8 {
		all.Go(func() {
			if got := play([]byte("many ways to go through a disk, side by side")); got != want {
				t.Errorf("P7: side by side: %q, not %q", got, want)
			}
		})
	}
	all.Wait()
}

// plain is a disk in the promises' own words: every Write since the last Sync, over what was synced.
type plain struct {
	kept  [4]string
	at    []int
	s     []string
	ops   int
	left  int
	power bool
}

func (p *plain) read(at int) (string, api.Errno) {
	switch {
	case !p.power:
		return "", api.ErrDead
	case at < 0 || at > 3:
		return "", api.ErrArg
	}
	s := p.kept[at]
	for i, w := range p.at {
		if w == at {
			s = p.s[i]
		}
	}
	return full(s), api.OK
}

func (p *plain) write(at int, s string) api.Errno {
	switch {
	case !p.power:
		return api.ErrDead
	case at < 0 || at > 3 || len(s) > 512:
		return api.ErrArg
	}
	p.at, p.s = append(p.at, at), append(p.s, s)
	return p.op()
}

func (p *plain) sync() api.Errno {
	if !p.power {
		return api.ErrDead
	}
	e := p.op()
	if e == api.OK {
		p.crash(slices.Repeat([]bool{true}, len(p.at)), p.left)
	}
	return e
}

func (p *plain) op() api.Errno {
	p.ops++
	if p.left--; p.left == 0 {
		p.power = false
		return api.ErrDead
	}
	return api.OK
}

func (p *plain) crash(keep []bool, left int) {
	for i, at := range p.at {
		if i < len(keep) && keep[i] {
			p.kept[at] = p.s[i]
		}
	}
	p.at, p.s, p.power, p.left = nil, nil, true, left
}

// FuzzDisk: P1, P3, P5, P201 to P203: any calls, twice the same way, and as the plain one.
func FuzzDisk(f *testing.F) {
	f.Add([]byte("write, sync, crash"))
	f.Add([]byte{0, 1, 2, 3, 4, 5, 6, 7, 8, 9, 10, 11, 12, 13, 14, 15, 16, 17, 18, 19, 20})
	for seed := range uint64(300) {
		f.Add(thrown(seed))
	}
	f.Fuzz(func(t *testing.T, ways []byte) {
		got, again, want := play(ways), play(ways), playPlain(ways)
		if got != again {
			t.Errorf("P3: %q, %q", got, again)
		}
		if got != want {
			t.Errorf("%v: %q, not %q", ways, got, want)
		}
	})
}

// thrown is bytes that look thrown.
func thrown(seed uint64) []byte {
	b := make([]byte, 120)
	for i := range b {
		seed = seed*6364136223846793005 + 1442695040888963407
		b[i] = byte(seed >> 56)
	}
	return b
}

// hand is what both kinds of disk can do.
type hand struct {
	read  func(at int) (string, api.Errno)
	write func(at int, s string) api.Errno
	sync  func() api.Errno
	stop  func(n int)
	crash func(keep []bool)
	told  func() (int, bool)
}

func play(ways []byte) string {
	d := disk.New(4)
	return walk(ways, hand{
		func(at int) (string, api.Errno) { b, e := d.Read(at); return string(b), e },
		func(at int, s string) api.Errno { return d.Write(at, []byte(s)) },
		d.Sync, d.Stop, d.Crash,
		func() (int, bool) { return d.Ops(), d.Dead() },
	})
}

func playPlain(ways []byte) string {
	p := &plain{power: true}
	return walk(ways, hand{
		p.read, p.write, p.sync,
		func(n int) { p.left = max(n, 0) },
		func(keep []bool) { p.crash(keep, 0) },
		func() (int, bool) { return p.ops, !p.power },
	})
}

// walk does with a disk what the bytes say, and tells all that it answered.
func walk(ways []byte, h hand) string {
	var told []byte
	tell := func(e api.Errno) { told = append(told, 'A'+byte(e)) }
	for i, w := range ways {
		at := int(w/16)%6 - 1
		switch w % 16 {
		case 0:
			tell(h.sync())
		case 1:
			h.stop(int(w/16)%8 - 1)
		case 2, 3:
			var keep []bool
			for k := range int(w/16) % 10 {
				keep = append(keep, ways[(i+k)%len(ways)]&1 == 1)
			}
			h.crash(keep)
		case 4:
			tell(h.write(at, strings.Repeat("x", 510+int(w/16)%5)))
		default:
			tell(h.write(at, string(ways[i/2:i+1])))
		}
		for at := range 6 {
			s, e := h.read(at - 1)
			tell(e)
			told = append(told, strings.TrimRight(s, "\x00")...)
			told = append(told, byte(len(s)>>2))
		}
		ops, dead := h.told()
		told = append(told, byte(ops))
		if dead {
			told = append(told, '!')
		}
	}
	return string(told)
}
