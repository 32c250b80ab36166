package value_test

import (
	"reflect"
	"runtime/debug"
	"slices"
	"strconv"
	"sync"
	"testing"
	"time"
	"unsafe"

	"triad/api"
	"triad/term"
	"triad/value"
)

// Memory

// lent is a text of bytes that stay the caller's.
func lent(b []byte) string { return unsafe.String(unsafe.SliceData(b), len(b)) }

// lender lends texts, and has them all changed later.
type lender struct{ l [][]byte }

func (l *lender) text(s string) string {
	b := []byte(s)
	l.l = append(l.l, b)
	return lent(b)
}

func (l *lender) term(t api.Term) api.Term {
	return api.Term{Kind: t.Kind, S: l.text(t.S), Lang: l.text(t.Lang), Type: l.text(t.Type)}
}

// expr is a copy of an expression, with room behind each list.
func (l *lender) expr(e api.Expr) api.Expr {
	out := api.Expr{Op: e.Op, T: l.term(e.T), Kids: make([]api.Expr, 0, len(e.Kids)+3)}
	for _, k := range e.Kids {
		out.Kids = append(out.Kids, l.expr(k))
	}
	for i := range out.Kids[len(e.Kids):cap(out.Kids)] {
		out.Kids[:cap(out.Kids)][len(e.Kids)+i] = mark()
	}
	return out
}

func (l *lender) sol(s api.Sol) api.Sol {
	out := make(api.Sol, 0, len(s)+3)
	for _, p := range s {
		out = append(out, api.Pair{Name: l.text(p.Name), T: l.term(p.T)})
	}
	for i := len(s); i < cap(out); i++ {
		out[:cap(out)][i] = api.Pair{Name: "none", T: text("room")}
	}
	return out
}

// mark stands in the room behind Kids.
func mark() api.Expr { return api.Expr{Op: api.ETerm, T: text("room"), Kids: []api.Expr{{Op: 7}}} }

// kept tells whether two expressions are the same, and in the room of the first one's lists nothing is changed.
func kept(a, b api.Expr) bool {
	if a.Op != b.Op || a.T != b.T || len(a.Kids) != len(b.Kids) || cap(a.Kids) < len(b.Kids)+3 {
		return false
	}
	for _, k := range a.Kids[len(a.Kids):cap(a.Kids)] {
		if !reflect.DeepEqual(k, mark()) {
			return false
		}
	}
	for i := range a.Kids {
		if !kept(a.Kids[i], b.Kids[i]) {
			return false
		}
	}
	return true
}

// lends is holds of an expression and a solution that somebody else has: they are not changed (P2), and what was answered
// stays when they are.
func lends(t *testing.T, e api.Expr, s api.Sol) {
	t.Helper()
	var l lender
	x, y := l.expr(e), l.sol(s)
	got, ok := value.Eval(x, y)
	if !kept(x, e) || !slices.Equal(y, s) {
		fault(t, "P2: %s is changed", tell(e))
	}
	for _, p := range y[len(y):cap(y)] {
		if p != (api.Pair{Name: "none", T: text("room")}) {
			fault(t, "P2: the room of the solution is changed")
		}
	}
	for _, b := range l.l {
		for i := range b {
			b[i] ^= 0x55
		}
	}
	want := eval(e, s)
	if got != want || ok != (want != api.Term{}) {
		fault(t, "P2: %s: %s %v, not %s", tell(e), clip(got), ok, clip(want))
	}
}

// TestMemory (P2): each operator, of terms and of variables.
func TestMemory(t *testing.T) {
	l := []api.Term{text("ab"), spoken("b", "en"), whole("1"), part("2.50"), truth(true), truth(false), typed("x", "t"), ref("a:b"), node("n")}
	for i, a := range l {
		for k, b := range l {
			s := api.Sol{{Name: "v", T: a}, {Name: "w", T: b}}
			for n := range 28 {
				for _, kids := range [][]api.Expr{nil, {of(a)}, {vari("v")}, {of(a), of(b)}, {vari("v"), vari("w")}, {of(a), of(b), vari("v")}, {none(), vari("w")}} {
					lends(t, api.Expr{Op: n, T: a, Kids: kids}, s)
				}
			}
			if i != k {
				lends(t, of(a), s)
			}
		}
	}
	lends(t, vari("v"), api.Sol{{Name: "v", T: spoken("x", "en")}})
}

// TestTermsMemory (P2): Truth, Equal and Less change nothing.
func TestTermsMemory(t *testing.T) {
	l := row()
	for i, a := range l {
		var o lender
		b := l[(i*7+3)%len(l)]
		x, y := o.term(a), o.term(b)
		value.Truth(x)
		value.Equal(x, y)
		value.Less(x, y)
		if x != a || y != b {
			fault(t, "P2: %s, %s are changed: %s, %s", clip(a), clip(b), clip(x), clip(y))
		}
	}
}

// TestSideBySide (P3, P7): the same calls answer the same, many at once too, of the same lists.
func TestSideBySide(t *testing.T) {
	var l []api.Expr
	d := die(5)
	for range 300 {
		l = append(l, d.expr(4))
	}
	s := some()
	var w sync.WaitGroup
	for range 8 {
		w.Go(func() {
			for range 5 {
				for _, e := range l {
					holds(t, e, s)
				}
			}
		})
	}
	w.Wait()
}

// Depth

// shallow has the tests' calls no deeper than this many bytes, so that an answer that needs a call a Kid ends the test.
func shallow(t *testing.T) {
	old := debug.SetMaxStack(1 << 18)
	t.Cleanup(func() { debug.SetMaxStack(old) })
}

// deep is how many stand one within another.
const deep = 20000

// level puts an expression into another one, and tells of what that is.
type level func(i int, e api.Expr) api.Expr

// answers tells a fault where Eval, a Kid of each being another, so often, answers something else than step by step.
//
// Each one is told, by the words, from what the one within it was told to be.
func answers(t *testing.T, name string, start api.Expr, s api.Sol, put level) {
	t.Helper()
	e, want := start, eval(start, s)
	for i := range deep {
		within := of(want)
		if want == (api.Term{}) {
			within = op(0)
		}
		want = eval(put(i, within), s)
		e = put(i, e)
	}
	got, ok := value.Eval(e, s)
	if got != want || ok != (want != api.Term{}) {
		fault(t, "P1: %s, %d deep: %s %v, not %s", name, deep, clip(got), ok, clip(want))
	}
}

// TestDeep: each operator, at each of its Kids, deeper than calls can be.
func TestDeep(t *testing.T) {
	shallow(t)
	starts := []api.Expr{of(whole("1")), of(text("ab")), of(truth(true)), of(truth(false)), none(), of(ref("a"))}
	for _, n := range ones {
		for _, start := range starts {
			answers(t, names[n], start, some(), func(_ int, e api.Expr) api.Expr { return op(n, e) })
		}
	}
	for _, n := range twos {
		for i, start := range starts {
			beside := starts[(i+n)%len(starts)]
			answers(t, names[n]+" first", start, some(), func(_ int, e api.Expr) api.Expr { return op(n, e, beside) })
			answers(t, names[n]+" second", start, some(), func(_ int, e api.Expr) api.Expr { return op(n, beside, e) })
		}
	}
	for _, start := range starts {
		answers(t, "first of if", start, some(), func(_ int, e api.Expr) api.Expr { return op(api.EIf, e, vari("no"), vari("yes")) })
		answers(t, "second of if", start, some(), func(_ int, e api.Expr) api.Expr { return op(api.EIf, vari("yes"), e, none()) })
		answers(t, "third of if", start, some(), func(_ int, e api.Expr) api.Expr { return op(api.EIf, vari("no"), none(), e) })
		answers(t, "first of coalesce", start, some(), func(_ int, e api.Expr) api.Expr { return op(api.ECoal, e, vari("a")) })
		answers(t, "last of coalesce", start, some(), func(_ int, e api.Expr) api.Expr { return op(api.ECoal, none(), none(), e) })
	}
}

// TestDeepReckoned: what each one is hangs on how many there are.
func TestDeepReckoned(t *testing.T) {
	shallow(t)
	for _, x := range []struct {
		name string
		put  level
		want api.Term
	}{
		{"sum to the left", func(_ int, e api.Expr) api.Expr { return op(api.EAdd, e, of(whole("3"))) }, whole(strconv.Itoa(3*deep + 7))},
		{"sum to the right", func(i int, e api.Expr) api.Expr { return op(api.EAdd, of(whole(strconv.Itoa(i))), e) }, whole(strconv.Itoa(deep*(deep-1)/2 + 7))},
		{"difference to the left", func(_ int, e api.Expr) api.Expr { return op(api.ESub, e, of(part("0.5"))) }, part(strconv.Itoa(7 - deep/2))},
		{"difference to the right", func(i int, e api.Expr) api.Expr { return op(api.ESub, of(whole("1")), e) }, whole("7")},
		{"sign", func(i int, e api.Expr) api.Expr { return op(api.ENeg, e) }, whole("7")},
	} {
		e := of(whole("7"))
		for i := range deep {
			e = x.put(i, e)
		}
		if got, ok := value.Eval(e, nil); !ok || got != x.want {
			fault(t, "P1502: %s, %d deep: %s %v, not %s", x.name, deep, clip(got), ok, clip(x.want))
		}
	}
}

// TestDeepThrown: operators of all kinds, one within another.
func TestDeepThrown(t *testing.T) {
	shallow(t)
	for seed := range 12 {
		d := die(seed)
		answers(t, "thrown "+strconv.Itoa(seed), d.leaf(), some(), func(i int, e api.Expr) api.Expr {
			d := die(seed<<20 + i) // the same one each time
			d.of(2)
			all := d.expr(1)
			for len(all.Kids) == 0 {
				all = d.expr(1)
			}
			all.Kids[d.of(len(all.Kids))] = e
			if d.of(3) == 0 {
				return op(api.ECoal, all, d.leaf())
			}
			return all
		})
	}
}

// TestWide: Kids as many as a caller may make.
func TestWide(t *testing.T) {
	kids := make([]api.Expr, 1<<20)
	kids[len(kids)-1] = vari("a")
	if got, ok := value.Eval(op(api.ECoal, kids...), some()); !ok || got != whole("5") {
		fault(t, "P1502: %s %v", clip(got), ok)
	}
	for _, n := range append(append([]int{api.ETerm, api.EIf, 0, 27}, ones...), twos...) {
		if got, ok := value.Eval(op(n, kids...), some()); ok || got != (api.Term{}) {
			fault(t, "P1502: %d: %s %v", n, clip(got), ok)
		}
	}
}

// TestDeepest is of a million and more, which one list has.
func TestDeepest(t *testing.T) {
	shallow(t)
	l := make([]api.Expr, 1<<20)
	for i := range l[1:] {
		l[i] = api.Expr{Op: api.ENeg, Kids: l[i+1 : i+2]}
	}
	l[len(l)-1] = vari("a")
	is(t, l[0], some(), whole("-5"))
	is(t, l[1], some(), whole("5"))
}

// TestLong (P1): terms that are none, as they have too many bytes.
func TestLong(t *testing.T) {
	s := noughts(1 << 22)
	for _, x := range []api.Term{text(s), spoken("x", s), typed("x", s), ref(s), whole("1" + s), part(s + "1." + s), node(s)} {
		value.Truth(x)
		for _, n := range ones {
			value.Eval(opOf(n, x), nil)
		}
		for _, n := range twos {
			value.Eval(opOf(n, x, x), nil)
			value.Eval(opOf(n, x, text("x")), nil)
		}
	}
	is(t, opOf(api.ELen, text(s)), nil, whole(strconv.Itoa(1<<22)))
	is(t, opOf(api.EHas, text(s), text(s+"1")), nil, truth(false))
}

// TestNoTerms (P8): of what is no term, and of solutions out of order, only P1 and P2 hold.
func TestNoTerms(t *testing.T) {
	l := []api.Term{{}, {Kind: -1}, {Kind: api.Var}, {Kind: 5, S: "x"}, {Kind: api.Iri, S: "", Lang: "x", Type: "y"}, {Kind: api.Literal, S: "1", Lang: "en", Type: api.XInt}, {Kind: api.Literal, S: "true", Lang: "en", Type: api.XBool}, {Kind: api.Blank, S: "\x00", Type: api.XBool}, text(noughts(100))}
	for _, a := range l {
		value.Truth(a)
		for _, b := range append(l, row()...) {
			value.Equal(a, b)
			value.Less(b, a)
			for n := range 28 {
				s := api.Sol{{Name: "v", T: b}, {Name: "v", T: a}, {Name: "", T: a}, {Name: "a", T: b}}
				value.Eval(opOf(n, a), s)
				value.Eval(opOf(n, a, b), s)
				value.Eval(opOf(n, a, b, a), s)
				value.Eval(op(n, vari("v"), vari(""), vari("a")), s)
			}
		}
	}
}

// ends tells a fault where Eval of what stands within itself does not end, or is no error.
func ends(t *testing.T, e api.Expr, how string) {
	t.Helper()
	end := make(chan bool)
	go func() {
		if got, ok := value.Eval(e, some()); ok || got != (api.Term{}) {
			t.Errorf("P1: %s: %s %v", how, clip(got), ok)
		}
		close(end)
	}()
	select {
	case <-end:
	case <-time.After(20 * time.Second):
		t.Fatalf("P1: %s does not end", how)
	}
}

// rings goes through lists of Kids that have themselves somewhere within, behind some that have not.
func rings(t *testing.T, n int, kids func(within ...api.Expr) []api.Expr) {
	t.Helper()
	for _, size := range [][2]int{{0, 1}, {0, 2}, {0, 3}, {0, 7}, {1, 1}, {1, 4}, {2, 3}, {3, 1}, {5, 5}, {7, 2}, {8, 9}, {30, 50}, {1000, 1}, {0, 1000}, {1000, 3000}} {
		ahead, ring := size[0], size[1]
		rows := make([][]api.Expr, ahead+ring)
		for i := range rows {
			rows[i] = kids(api.Expr{Op: n})
		}
		for i := range rows {
			next := i + 1
			if next == len(rows) {
				next = ahead
			}
			for k := range rows[i] {
				if rows[i][k].Op == n && rows[i][k].Kids == nil {
					rows[i][k].Kids = rows[next]
				}
			}
		}
		ends(t, api.Expr{Op: n, Kids: rows[0]}, names[n]+" within itself, "+strconv.Itoa(ahead)+" ahead, "+strconv.Itoa(ring)+" round")
	}
}

// TestWithinItself (P1): each operator, at each of its Kids, and at all of them.
func TestWithinItself(t *testing.T) {
	shallow(t)
	for _, n := range ones {
		if n != api.EBound { // which does not look at its Kid's Kids
			rings(t, n, func(l ...api.Expr) []api.Expr { return l })
		}
	}
	for _, beside := range []api.Expr{vari("yes"), vari("no"), vari("a"), of(text("x")), none()} {
		for _, n := range twos {
			if beside.T.S != "none" || n == api.EOr || n == api.EAnd {
				rings(t, n, func(l ...api.Expr) []api.Expr { return []api.Expr{beside, l[0]} })
			}
			rings(t, n, func(l ...api.Expr) []api.Expr { return []api.Expr{l[0], beside} })
		}
		rings(t, api.EIf, func(l ...api.Expr) []api.Expr { return []api.Expr{l[0], beside, beside} })
		rings(t, api.EIf, func(l ...api.Expr) []api.Expr { return []api.Expr{vari("yes"), l[0], beside} })
		rings(t, api.EIf, func(l ...api.Expr) []api.Expr { return []api.Expr{vari("no"), beside, l[0]} })
		rings(t, api.ECoal, func(l ...api.Expr) []api.Expr { return []api.Expr{l[0], beside} })
		rings(t, api.ECoal, func(l ...api.Expr) []api.Expr { return []api.Expr{none(), none(), l[0], beside} })
	}
	for _, n := range twos {
		rings(t, n, func(l ...api.Expr) []api.Expr { return []api.Expr{l[0], l[0]} })
	}
	rings(t, api.EIf, func(l ...api.Expr) []api.Expr { return []api.Expr{l[0], l[0], l[0]} })
	rings(t, api.ECoal, func(l ...api.Expr) []api.Expr { return []api.Expr{l[0], l[0], l[0], l[0]} })
}

// TestNotLookedAt: what stands within itself, where the one it stands in does not look at it.
func TestNotLookedAt(t *testing.T) {
	shallow(t)
	l := []api.Expr{vari("yes"), vari("a"), {}}
	l[2] = op(api.EIf, l...)
	is(t, l[2], some(), whole("5"))
	l = []api.Expr{vari("no"), {}, vari("a")}
	l[1] = op(api.EIf, l...)
	is(t, l[1], some(), whole("5"))
	l = []api.Expr{vari("a"), {}}
	l[1] = op(api.ECoal, l...)
	is(t, l[1], some(), whole("5"))
}

// Thrown

// die throws numbers.
type die uint64

func (d *die) of(k int) int {
	*d = *d*6364136223846793005 + 1442695040888963407
	return int(uint64(*d) >> 33 % uint64(k))
}

// term throws one of all kinds.
func (d *die) term() api.Term {
	s := []string{"", "a", "ab", "b", "1", "x"}[d.of(6)]
	switch d.of(10) {
	case 0:
		return ref("a" + s)
	case 1:
		return node("n" + s)
	case 2:
		return text(s)
	case 3:
		return spoken(s, []string{"en", "de"}[d.of(2)])
	case 4:
		return typed(s, []string{"t", aText, api.XInt, api.XBool}[d.of(4)])
	case 5:
		return truth(d.of(2) == 0)
	case 6:
		l := row()
		return l[d.of(len(l))]
	case 7:
		return whole(strconv.Itoa(d.of(1<<d.of(20)) - d.of(9)))
	}
	return part(strconv.Itoa(d.of(30)-15) + "." + strconv.Itoa(d.of(1<<d.of(12))))
}

// sol throws a solution, in order.
func (d *die) sol() api.Sol {
	var s api.Sol
	for _, name := range []string{"a", "b", "c", "d", "no", "yes"} {
		if d.of(4) > 0 {
			s = append(s, api.Pair{Name: name, T: d.term()})
		}
	}
	return s
}

func (d *die) leaf() api.Expr {
	switch d.of(12) {
	case 0:
		return none()
	case 1:
		return op(api.EBound, vari([]string{"a", "none"}[d.of(2)]))
	case 2, 3, 4, 5:
		return vari([]string{"a", "b", "c", "d", "no", "yes"}[d.of(6)])
	}
	return of(d.term())
}

// expr throws an expression, at most so deep; one that has a Kid too many, or too few, is rare.
func (d *die) expr(most int) api.Expr {
	if most == 0 || d.of(8) == 0 {
		return d.leaf()
	}
	n := []int{api.EIf, api.ECoal, api.EOr, api.EAnd, api.ENot, api.ENeg}[d.of(6)]
	count := 0
	switch d.of(4) {
	case 0:
		n = ones[d.of(len(ones))]
	case 1, 2:
		n = twos[d.of(len(twos))]
	}
	switch {
	case n == api.EIf:
		count = 3
	case n == api.ECoal:
		count = 1 + d.of(4)
	case slices.Contains(twos, n):
		count = 2
	default:
		count = 1
	}
	switch d.of(200) {
	case 0:
		count++
	case 1:
		count--
	case 2:
		n = d.of(40) - 5
	}
	e := api.Expr{Op: n}
	for range count {
		e.Kids = append(e.Kids, d.expr(most-1))
	}
	return e
}

// TestThrown: expressions and solutions of all kinds, by the words; what they tell is a term.
func TestThrown(t *testing.T) {
	t.Parallel()
	d := die(1)
	n := 0
	for range 60000 {
		e, s := d.expr(1+d.of(6)), d.sol()
		holds(t, e, s)
		if d.of(8) == 0 {
			lends(t, e, s)
		}
		got, ok := value.Eval(e, s)
		if ok {
			n++
		}
		if e := term.Check(got); ok && e != api.OK && !strayed(got) {
			fault(t, "P1502: %s: %v", clip(got), e)
		}
	}
	if n < 15000 {
		t.Errorf("%d that are no errors only", n)
	}
}

// strayed is whether a term is one of those that may not be, and were handed in, by their bytes.
func strayed(t api.Term) bool {
	return len(t.S) > api.MaxTerm || t.Kind == api.Iri && t.S == ""
}

func FuzzEval(f *testing.F) {
	for i := range 20 {
		f.Add(uint64(i), 1+i%5, "a", "1.50")
	}
	f.Fuzz(func(t *testing.T, seed uint64, most int, a, b string) {
		d := die(seed)
		s := append(d.sol(), api.Pair{Name: "z", T: whole(a)})
		e := d.expr(1 + most&3)
		holds(t, e, s)
		lends(t, e, s)
		for _, x := range []api.Term{text(a), whole(a), part(a), ref(a), spoken(a, "en"), typed(a, api.XBool)} {
			for _, y := range []api.Term{text(b), whole(b), part(b), node(b), spoken(b, "en"), typed(a, "t")} {
				compares(t, x, y, equal(x, y), less(x, y), less(y, x))
				for _, n := range twos {
					holds(t, opOf(n, x, y), s)
				}
				holds(t, op(api.EIf, of(x), e, of(y)), s)
				holds(t, op(api.ECoal, e, of(x)), s)
			}
			for _, n := range ones {
				holds(t, opOf(n, x), s)
			}
		}
	})
}
