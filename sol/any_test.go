package sol_test

import (
	"math"
	"slices"
	"strings"
	"sync"
	"testing"
	"time"
	"unsafe"

	"triad/api"
	"triad/sol"
)

// Memory

// lent is a text of bytes that stay the caller's.
func lent(b []byte) string { return unsafe.String(unsafe.SliceData(b), len(b)) }

// lender lends texts, and changes them all later; what stands in the room behind a list is its mark.
type lender struct{ l [][]byte }

func (l *lender) text(s string) string {
	b := []byte(s)
	l.l = append(l.l, b)
	return lent(b)
}

func (l *lender) term(t api.Term) api.Term {
	return api.Term{Kind: t.Kind, S: l.text(t.S), Lang: l.text(t.Lang), Type: l.text(t.Type)}
}

var markPair = api.Pair{Name: "none", T: api.Term{Kind: api.Literal, S: "room"}}

func markSol() api.Sol { return api.Sol{markPair, markPair} }

func (l *lender) sol(s api.Sol) api.Sol {
	out := make(api.Sol, len(s)+3)
	for i := range out {
		out[i] = markPair
	}
	for i, p := range s {
		out[i] = api.Pair{Name: l.text(p.Name), T: l.term(p.T)}
	}
	return out[:len(s)]
}

func (l *lender) row(r []api.Sol) []api.Sol {
	out := make([]api.Sol, len(r)+3)
	for i := range out {
		out[i] = markSol()
	}
	for i, s := range r {
		out[i] = l.sol(s)
	}
	return out[:len(r)]
}

// keptSol, keptRow tell whether what was lent is as it was, the room behind it too.
func keptSol(lent, s api.Sol) bool {
	return slices.Equal(lent, s) && slices.Equal(lent[len(s):len(s)+3], api.Sol{markPair, markPair, markPair})
}

func keptRow(lent, r []api.Sol) bool {
	for i := range r {
		if !keptSol(lent[i], r[i]) {
			return false
		}
	}
	return len(lent) == len(r) && same(lent[len(r):len(r)+3], []api.Sol{markSol(), markSol(), markSol()})
}

// change changes all that was lent.
func (l *lender) change(t *testing.T, rows ...[]api.Sol) {
	for _, b := range l.l {
		for i := range b {
			b[i] ^= 0x55
		}
	}
	for _, r := range rows {
		r = r[:cap(r)]
		for i := range r {
			scratch(r[i])
			r[i] = nil
		}
	}
}

// scratch writes over a solution, and the room behind it.
func scratch(s api.Sol) {
	s = s[:cap(s)]
	for i := range s {
		s[i] = api.Pair{Name: "scratch", T: api.Term{Kind: -1, S: "scratch"}}
	}
}

// apart tells a fault where two of the solutions of an answer, or it and what was lent, share memory: each one is written
// over, with the room behind it, and all the others stay.
func apart(t *testing.T, what string, got, want []api.Sol) {
	t.Helper()
	is(t, "P2: "+what, got, want)
	for i := range got {
		for _, p := range got[i] {
			distinct(t, what, p, got[:i])
		}
	}
	for i := range got {
		scratch(got[i])
		is(t, "P2: "+what, got[i+1:], want[i+1:])
	}
	room := got[len(got):cap(got)]
	for _, s := range room {
		if len(s) > 0 {
			t.Errorf("P2: %s: something is in the room behind it", what)
		}
	}
}

// distinct tells a fault where a pair's texts stand at the same place as others' do.
func distinct(t *testing.T, what string, p api.Pair, others []api.Sol) {
	t.Helper()
	for _, s := range others {
		for _, q := range s {
			for _, x := range parts(p) {
				if x != "" && slices.ContainsFunc(parts(q), func(y string) bool { return unsafe.StringData(x) == unsafe.StringData(y) }) {
					t.Errorf("P2: %s: %s stands at one place twice", what, x)
				}
			}
		}
	}
}

func parts(p api.Pair) []string { return []string{p.Name, p.T.S, p.T.Lang, p.T.Type} }

// rowsMemory holds Join, Left, Minus, Sort of two rows to P2.
func rowsMemory(t *testing.T, a, b []api.Sol) {
	t.Helper()
	for _, x := range []struct {
		what string
		call func(a, b []api.Sol) []api.Sol
		want []api.Sol
	}{
		{"Join", func(a, b []api.Sol) []api.Sol { l, _ := sol.Join(a, b); return l }, first(join(a, b, false))},
		{"Left", func(a, b []api.Sol) []api.Sol { l, _ := sol.Left(a, b); return l }, first(join(a, b, true))},
		{"Minus", sol.Minus, minus(a, b)},
		{"Sort", func(a, _ []api.Sol) []api.Sol { return sol.Sort(a) }, sorted(a)},
	} {
		var l lender
		y, z := l.row(a), l.row(b)
		got := x.call(y, z)
		if !keptRow(y, a) || !keptRow(z, b) {
			t.Errorf("P2: %s: what was handed in is changed: %s, %s", x.what, said(a), said(b))
		}
		l.change(t, y, z)
		apart(t, x.what, got, x.want)
	}
}

func first(l []api.Sol, _ api.Errno) []api.Sol { return l }

// TestRowsMemory (P2)
func TestRowsMemory(t *testing.T) {
	long := []api.Sol{{{Name: "a", T: typed("5", api.XInt)}, {Name: "b", T: spoken("x", "en")}}, {{Name: "a", T: ref("x:y")}}, {{Name: "c", T: node("q")}}, nil}
	for _, x := range [][2][]api.Sol{
		{nil, nil}, {row(""), nil}, {nil, row("")}, {row("a=1"), nil}, {row("a=1", "a=1", "b=2"), nil}, {row("a=1", "a=1"), row("b=1", "b=1", "")},
		{row("a=1 b=1", "a=1 b=1", "a=2"), row("b=1 c=1", "c=1", "a=3")}, {long, long}, {long, row("d=1", "", "a=x:y")}, {row("d=1", "", "a=x:y"), long},
		{append(long, long...), append(long, row("e=1")...)}, {count("a", 90), row("a=00007", "b=1")}, {again("a=1", 9), row("a=2")}, {count("a", 60), count("b", 60)},
	} {
		rowsMemory(t, x[0], x[1])
	}
	var d die = 11
	for range 200 {
		rowsMemory(t, d.row(6, names[:4], terms(), 2), d.row(6, names[:4], terms()[:4], 3))
	}
}

// TestSolMemory (P2): Get, Set, Meet, Text.
func TestSolMemory(t *testing.T) {
	var d die = 12
	for range 2000 {
		a, b := d.sol(names, terms()[:3], 2), d.sol(names, terms()[:3], 4)
		var l lender
		x, y := l.sol(a), l.sol(b)
		got, _ := sol.Meet(x, y)
		text := sol.Text(x)
		name, z := names[d.of(len(names))], terms()[d.of(3)]
		put, _ := sol.Set(x, l.text(name), l.term(z))
		has, _ := sol.Get(x, l.text(name))
		if !keptSol(x, a) || !keptSol(y, b) {
			t.Errorf("P2: what was handed in is changed: %s, %s", one(a), one(b))
		}
		l.change(t, []api.Sol{x, y})
		want, _, _ := meet(a, b)
		wantPut, _, _ := meet(a, api.Sol{{Name: name, T: z}})
		is(t, "P2: Meet", []api.Sol{got}, []api.Sol{want})
		is(t, "P2: Set", []api.Sol{put}, []api.Sol{wantPut})
		if text != textOf(a) || has != known(a)[name] {
			t.Errorf("P2: of %s: %q, %v", one(a), text, has)
		}
	}
}

// TestRoomBehind (P2): what stands in the room behind a solution or a row is none of it.
func TestRoomBehind(t *testing.T) {
	s := of("a=1 b=2 c=3")
	if got, is := sol.Get(s[:1], "b"); is || got != (api.Term{}) {
		t.Errorf("P2: %v %v", got, is)
	}
	puts(t, s[:1], "b", ref("9"), of("a=1 b=9"))
	puts(t, s[:2], "A", ref("9"), of("A=9 a=1 b=2"))
	meets(t, s[:1], of("b=3"))
	l := row("a=1", "a=2", "a=3")
	holds(t, l[:1], l[1:2])
	holds(t, l[:0], l[:2])
	is(t, "P2: the row", l, row("a=1", "a=2", "a=3"))
	is(t, "P2: the solution", []api.Sol{s}, row("a=1 b=2 c=3"))
}

// TestOneTwice (P2): one row, one solution handed in as both.
func TestOneTwice(t *testing.T) {
	for _, l := range [][]api.Sol{row("a=1", "a=2", "", "a=1 b=2"), {some(), some()}, {some()[:0], some()[:2]}} {
		old := slices.Clone(l)
		holds(t, l, l)
		holds(t, l, l[:1])
		is(t, "P2: the row", l, old)
	}
	s := some()
	meets(t, s, s)
	meets(t, s, s[:2])
}

// What may not be (P8)

// odd are solutions that are none: out of order, with a name more than once, of names and terms that may not be.
func odd() []api.Sol {
	none := []api.Term{{}, {Kind: api.Var, S: "a"}, {Kind: -1, S: "\x00"}, {Kind: math.MaxInt}, {Kind: math.MinInt, S: "q", Lang: "q", Type: "q"}, {Kind: api.Literal, S: "q", Lang: "en", Type: "en"}, {Kind: api.Iri, S: "> ?b <"}}
	out := []api.Sol{of("b=1 a=2"), of("a=1 a=1"), of("a=1 a=2"), of("c=1 b=2 a=3 b=4 c=5"), of("a=1 b=1 a=2 b=2"), {{}}, {{}, {}}, {{Name: "\xff"}, {Name: ""}, {Name: " "}}, {{Name: strings.Repeat("x", 70000), T: text(strings.Repeat("\"", 70000))}}}
	for _, x := range none {
		out = append(out, api.Sol{{Name: "a", T: x}}, api.Sol{{Name: "b", T: x}, {Name: "a", T: x}})
	}
	return out
}

// TestOdd (P8): all ends (P1), answers the same each time (P3), and changes nothing (P2).
func TestOdd(t *testing.T) {
	l := append(odd(), row("", "a=1", "a=1 b=2")...)
	for _, a := range l {
		for _, b := range l {
			var o lender
			x, y := o.sol(a), o.sol(b)
			got, is1 := sol.Meet(x, y)
			if !is1 {
				none(t, "P4: Meet", got, is1)
			}
			again, is2 := sol.Meet(x, y)
			for _, p := range b {
				sol.Get(x, p.Name)
				if got, is := sol.Set(x, p.Name, p.T); !is {
					none(t, "P4: Set", got, is)
				}
			}
			if is1 != is2 || !slices.Equal(got, again) || sol.Text(x) != sol.Text(x) || !keptSol(x, a) || !keptSol(y, b) {
				t.Errorf("P8: %s, %s", one(a), one(b))
			}
			oddRows(t, []api.Sol{a, b, a}, []api.Sol{b, a})
		}
	}
	oddRows(t, l, l)
	oddRows(t, l, turned(l))
}

func oddRows(t *testing.T, a, b []api.Sol) {
	t.Helper()
	var o lender
	x, y := o.row(a), o.row(b)
	for _, how := range []func(a, b []api.Sol) ([]api.Sol, api.Errno){
		sol.Join, sol.Left,
		func(a, b []api.Sol) ([]api.Sol, api.Errno) { return sol.Minus(a, b), api.OK },
		func(a, _ []api.Sol) ([]api.Sol, api.Errno) { return sol.Sort(a), api.OK },
	} {
		got, e := how(x, y)
		again, f := how(x, y)
		if e != f || !same(got, again) || !keptRow(x, a) || !keptRow(y, b) {
			t.Errorf("P8: %s, %s", said(a), said(b))
		}
	}
}

// TestManyMade (P1): what is too much to be made is not made, where it is too many anyway.
func TestManyMade(t *testing.T) {
	var wide api.Sol
	for i := range 100000 {
		wide = append(wide, api.Pair{Name: "v" + string([]byte{'a' + byte(i/17576%26), 'a' + byte(i/676%26), 'a' + byte(i/26%26), 'a' + byte(i%26)}), T: ref("q")})
	}
	start := time.Now()
	for _, x := range [][2][]api.Sol{{{wide}, again("", bound+1)}, {again("", bound+1), {wide}}, {count("a", bound+1), {wide}}, {slices.Repeat([]api.Sol{wide}, bound+1), row("")}} {
		many(t, x[0], x[1], sol.Join)
		many(t, x[0], x[1], sol.Left)
	}
	if d := time.Since(start); d > time.Minute {
		t.Errorf("P1: %v", d)
	}
}

// TestLongRows (P1): rows of many solutions, of which few meet.
func TestLongRows(t *testing.T) {
	a, b := count("a", 4000), count("a", 8000)[4000:]
	got, e := sol.Join(a, append(slices.Clone(b), of("a=00007 b=1")))
	is(t, "P1602: Join", got, row("a=00007 b=1"))
	if e != api.OK {
		t.Errorf("P1602: %v", e)
	}
	is(t, "P1602: Minus", sol.Minus(turned(a), b), a)
}

// TestSideBySide (P7)
func TestSideBySide(t *testing.T) {
	var d die = 21
	a, b := d.row(30, names, terms(), 3), d.row(30, names, terms(), 3)
	x, e := sol.Join(a, b)
	y, f := sol.Left(a, b)
	z, w := sol.Minus(a, b), sol.Sort(a)
	var g sync.WaitGroup
	for range 8 {
		g.Go(func() {
			for range 50 {
				x2, e2 := sol.Join(a, b)
				y2, f2 := sol.Left(a, b)
				if !same(x, x2) || !same(y, y2) || e != e2 || f != f2 || !same(sol.Minus(a, b), z) || !same(sol.Sort(a), w) {
					t.Error("P3: side by side it is another one")
				}
			}
		})
	}
	g.Wait()
}

// FuzzRows: a row for each of two, told by bytes.
func FuzzRows(f *testing.F) {
	f.Add([]byte{}, []byte{1, 2, 3})
	f.Add([]byte{0x11, 0x22, 0, 0x33}, []byte{0x11, 0, 0x11, 0x23})
	f.Fuzz(func(t *testing.T, x, y []byte) {
		a, b := read(x), read(y)
		holds(t, a, b)
		if len(a)+len(b) < 30 {
			rowsMemory(t, a, b)
		}
	})
}

// read reads a row: a nought ends a solution, all other bytes are a variable and a term.
func read(b []byte) []api.Sol {
	var out []api.Sol
	m := map[string]api.Term{}
	for _, c := range b[:min(len(b), 300)] {
		if c == 0 {
			out = append(out, inOrder(m))
			clear(m)
			continue
		}
		m[names[int(c>>4)%len(names)]] = terms()[int(c&15)%len(terms())]
	}
	return append(out, inOrder(m))
}
