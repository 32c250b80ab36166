package path_test

import (
	"math"
	"runtime/debug"
	"slices"
	"strconv"
	"strings"
	"sync"
	"testing"
	"time"
	"unsafe"

	"triad/api"
	"triad/path"
)

// Memory

// lent is a text of bytes that stay the caller's.
func lent(b []byte) string { return unsafe.String(unsafe.SliceData(b), len(b)) }

// lender lends texts and lists, and changes them all later; what stands in the room behind a list is its mark.
type lender struct {
	texts  [][]byte
	graphs [][]api.Triple
	kids   [][]api.Path
}

var (
	markTriple = api.Triple{{Kind: api.Iri, S: "room"}, {Kind: api.Iri, S: "p"}, {Kind: api.Iri, S: "room"}}
	markPath   = api.Path{Op: api.PIri, S: "room"}
)

func (l *lender) text(s string) string {
	b := []byte(s)
	l.texts = append(l.texts, b)
	return lent(b)
}

func (l *lender) graph(g []api.Triple) []api.Triple {
	out := slices.Repeat([]api.Triple{markTriple}, len(g)+3)
	for i, t := range g {
		for k, x := range t {
			out[i][k] = api.Term{Kind: x.Kind, S: l.text(x.S), Lang: l.text(x.Lang), Type: l.text(x.Type)}
		}
	}
	l.graphs = append(l.graphs, out)
	return out[:len(g)]
}

func (l *lender) way(w api.Path) api.Path {
	out := slices.Repeat([]api.Path{markPath}, len(w.Kids)+3)
	for i, k := range w.Kids {
		out[i] = l.way(k)
	}
	l.kids = append(l.kids, out)
	return api.Path{Op: w.Op, S: l.text(w.S), Kids: out[:len(w.Kids)]}
}

// kept, keptGraph tell whether a way, a graph that was lent is as it was, the room behind its lists too.
func kept(lent, w api.Path) bool {
	for i := range w.Kids {
		if i == len(lent.Kids) || !kept(lent.Kids[i], w.Kids[i]) {
			return false
		}
	}
	return lent.Op == w.Op && lent.S == w.S && slices.EqualFunc(lent.Kids[len(w.Kids):cap(lent.Kids)], slices.Repeat([]api.Path{markPath}, 3), same)
}

func keptGraph(lent, g []api.Triple) bool {
	return slices.Equal(lent[:cap(lent)], append(slices.Clone(g), markTriple, markTriple, markTriple))
}

// change changes all that was lent.
func (l *lender) change() {
	for _, b := range l.texts {
		for i := range b {
			b[i] ^= 0x55
		}
	}
	for _, g := range l.graphs {
		clear(g)
	}
	for _, k := range l.kids {
		clear(k)
	}
}

// lends holds Ends, called twice, and Same of what somebody else has to P2.
func lends(t *testing.T, g []api.Triple, w api.Path) {
	t.Helper()
	var l lender
	x, y := l.graph(g), l.way(w)
	one := path.Ends(x, y)
	two := path.Ends(x, y)
	if !path.Same(y, w) || !kept(y, w) || !keptGraph(x, g) {
		t.Errorf("P2: what was handed in is changed: %s, %s", said(g), tell(w))
	}
	l.change()
	want := words(g, w).row()
	if !slices.Equal(one, want) || !slices.Equal(two, want) {
		t.Errorf("P2: of %s, %s: %s, %s, not %s", said(g), tell(w), said(one), said(two), said(want))
	}
	places := texts(one)
	for s := range texts(two) {
		if places[s] {
			t.Errorf("P2: of %s, %s: two answers share a text", said(g), tell(w))
			break
		}
	}
	scratch(one)
	if !slices.Equal(two, want) {
		t.Errorf("P2: of %s, %s: two answers share a list", said(g), tell(w))
	}
}

// texts are the places in memory of the texts of an answer.
func texts(l []pair) map[*byte]bool {
	m := map[*byte]bool{}
	for _, x := range l {
		for _, t := range x {
			for _, s := range []string{t.S, t.Lang, t.Type} {
				if s != "" {
					m[unsafe.StringData(s)] = true
				}
			}
		}
	}
	return m
}

// scratch writes over a list, and the room behind it.
func scratch(l []pair) {
	l = l[:cap(l)]
	for i := range l {
		l[i] = pair{ref("scratch"), ref("scratch")}
	}
}

// TestMemory (P2)
func TestMemory(t *testing.T) {
	for _, w := range kinds() {
		for _, g := range [][]api.Triple{nil, graph("apb"), graph(tangle), chain(40), ring(9)} {
			lends(t, g, w)
		}
	}
	var d die = 5
	for range 1500 {
		lends(t, d.graph(12, terms(), "p", "q"), d.way(4, "p", "q"))
	}
}

// TestRoomBehind (P2): what stands in the room behind a graph or behind Kids is none of it.
func TestRoomBehind(t *testing.T) {
	g := graph("apb bpc cpd")
	is(t, "P2", g[:1], plus(p("p")), []pair{{ref("a"), ref("b")}})
	is(t, "P2", g[:0], star(p("p")), nil)
	is(t, "P2", g[1:2], opt(p("q")), []pair{{ref("b"), ref("b")}, {ref("c"), ref("c")}})
	l := []api.Path{p("p"), p("p"), p("q")}
	is(t, "P2", g, seq(l[:1]...), words(g, p("p")).row())
	is(t, "P2", g, seq(l[:2]...), []pair{{ref("a"), ref("c")}, {ref("b"), ref("d")}})
	is(t, "P2", g, api.Path{Op: api.PInv, Kids: l[:1]}, swapped(words(g, p("p")).row()))
	is(t, "P2", g, api.Path{Op: api.PStar, Kids: l[:0]}, nil)
}

// TestSideBySide (P3, P7): the same calls answer the same, many at once too, of the same lists.
func TestSideBySide(t *testing.T) {
	var d die = 6
	g := inOrder(append(d.graph(60, terms(), "p", "q"), ring(30)...))
	l := append(kinds(), d.way(5, "p", "q"), d.way(5, "p", "q"), d.way(6, "p", "q"))
	var want [][]pair
	for _, w := range l {
		want = append(want, path.Ends(g, w))
	}
	var all sync.WaitGroup
	for n := range 8 {
		all.Go(func() {
			for i := range 4 * len(l) {
				i = (i*(2*n+1) + n) % len(l)
				if !slices.Equal(path.Ends(g, l[i]), want[i]) || path.Same(l[i], l[n]) != (i == n) {
					t.Errorf("P3: %s: side by side it is another one", tell(l[i]))
				}
			}
		})
	}
	all.Wait()
}

// What may not be (P8)

// TestOdd: triples that are no graph. All ends (P1), answers the same each time (P3), and changes nothing (P2).
func TestOdd(t *testing.T) {
	l := append(terms(), api.Term{}, api.Term{Kind: api.Var, S: "p"}, api.Term{Kind: -1, S: "\x00"}, api.Term{Kind: math.MaxInt}, api.Term{Kind: math.MinInt, S: "p", Lang: "p", Type: "p"}, api.Term{Kind: api.Iri, S: "p", Lang: "en"}, api.Term{Kind: api.Iri, S: "p", Type: "p"}, node("p"), text("p"), ref("p"), ref(strings.Repeat("> <", 30000)))
	var d die = 8
	for range 300 {
		var g []api.Triple
		for range d.of(20) {
			g = append(g, api.Triple{l[d.of(len(l))], l[d.of(len(l))], l[d.of(len(l))]})
		}
		g = append(g, g[:d.of(len(g)+1)]...)
		for _, w := range append(kinds(), p(""), star(p(l[d.of(len(l))].S))) {
			var o lender
			x, y := o.graph(g), o.way(w)
			one := path.Ends(x, y)
			two := path.Ends(x, y)
			if !slices.Equal(one, two) || !keptGraph(x, g) || !kept(y, w) {
				t.Errorf("P8: %s, %s", said(g), tell(w))
			}
		}
	}
}

// TestOutOfOrder: triples twice and out of order lead where their graph does.
func TestOutOfOrder(t *testing.T) {
	var d die = 9
	for range 300 {
		g := d.graph(20, terms(), "p", "q")
		l := append(slices.Clone(g), g...)
		slices.Reverse(l)
		for _, w := range kinds() {
			is(t, "P8", l, w, path.Ends(g, w))
		}
	}
}

// ends tells a fault where a call does not end.
func ends(t *testing.T, what string, call func()) {
	t.Helper()
	end := make(chan bool)
	go func() {
		call()
		close(end)
	}()
	select {
	case <-end:
	case <-time.After(30 * time.Second):
		t.Fatalf("P1: %s does not end", what)
	}
}

// rings are lists of Kids that have themselves somewhere within, behind some that have not.
func rings(n, ahead, round int, kids func(within api.Path) []api.Path) api.Path {
	rows := make([][]api.Path, ahead+round)
	for i := range rows {
		rows[i] = kids(api.Path{Op: n, S: "within"})
	}
	for i := range rows {
		next := i + 1
		if next == len(rows) {
			next = ahead
		}
		for k := range rows[i] {
			if rows[i][k].S == "within" {
				rows[i][k].Kids = rows[next]
			}
		}
	}
	return api.Path{Op: n, S: "within", Kids: rows[0]}
}

// TestWithinItself (P1): what stands within itself, at each Kid and at all of them, leads nowhere; it is the same as what
// is not to be told from it.
func TestWithinItself(t *testing.T) {
	shallow(t)
	alone := func(w api.Path) []api.Path { return []api.Path{w} }
	how := map[string]func(w api.Path) []api.Path{
		"first": func(w api.Path) []api.Path { return []api.Path{w, p("p"), p("q")} },
		"last":  func(w api.Path) []api.Path { return []api.Path{p("p"), p("q"), w} },
		"among": func(w api.Path) []api.Path { return []api.Path{star(p("p")), w, p("q")} },
		"all":   func(w api.Path) []api.Path { return []api.Path{w, w} },
		"alone": alone,
	}
	for _, size := range [][2]int{{0, 1}, {0, 2}, {0, 3}, {0, 7}, {1, 1}, {1, 4}, {2, 3}, {3, 1}, {5, 5}, {7, 2}, {8, 9}, {30, 50}, {1000, 1}, {0, 1000}, {1000, 3000}} {
		endless := func(what string, n int, kids func(w api.Path) []api.Path) {
			t.Helper()
			w := rings(n, size[0], size[1], kids)
			what += " within itself, " + strconv.Itoa(size[0]) + " ahead, " + strconv.Itoa(size[1]) + " round"
			ends(t, what, func() {
				is(t, what, graph(tangle), w, nil)
				is(t, what, graph(tangle), alt(p("p"), inv(w)), nil)
				sames(t, w, w, true)
				sames(t, w, rings(n, size[0]+1, size[1]*3, kids), true)
				sames(t, w, p("p"), false)
				other := rings(n, size[0], size[1], kids)
				k := &other
				for range size[0] + size[1] - 1 {
					k = &k.Kids[slices.IndexFunc(k.Kids, func(x api.Path) bool { return x.S == "within" })]
				}
				k.Kids[0].Op = 9
				sames(t, w, other, false)
			})
		}
		for _, n := range ones {
			endless(strconv.Itoa(n), n, alone)
		}
		for _, n := range manies {
			for name, kids := range how {
				endless(strconv.Itoa(n)+" "+name, n, kids)
			}
		}
	}
}

// Much

// shallow has the tests' calls no deeper than this many bytes, so that an answer that needs a call a Kid ends the test.
func shallow(t *testing.T) {
	old := debug.SetMaxStack(1 << 18)
	t.Cleanup(func() { debug.SetMaxStack(old) })
}

// deep is how many stand one within another.
const deep = 40001

// nested puts a way into others, so often.
func nested(w api.Path, put func(i int, kid api.Path) api.Path) api.Path {
	for i := range deep {
		w = put(i, w)
	}
	return w
}

// TestDeep: each operator, deeper than calls can be.
func TestDeep(t *testing.T) {
	shallow(t)
	for _, x := range []struct {
		what string
		put  func(i int, kid api.Path) api.Path
		want string
	}{
		{"turned", func(_ int, w api.Path) api.Path { return inv(w) }, "ba cb"},
		{"plus", func(_ int, w api.Path) api.Path { return plus(w) }, "ab ac bc"},
		{"star", func(_ int, w api.Path) api.Path { return star(w) }, "aa ab ac bb bc cc dd"},
		{"opt", func(_ int, w api.Path) api.Path { return opt(w) }, "aa ab bb bc cc dd"},
		{"row of one", func(_ int, w api.Path) api.Path { return seq(w) }, "ab bc"},
		{"either of one", func(_ int, w api.Path) api.Path { return alt(w) }, "ab bc"},
		{"row, and nothing", func(_ int, w api.Path) api.Path { return seq(w, p("r")) }, ""},
		{"row, and itself", func(_ int, w api.Path) api.Path { return seq(star(p("r")), w) }, "ab bc"},
		{"row to the left", func(_ int, w api.Path) api.Path { return seq(w, opt(p("p"))) }, "ab ac bc"},
		{"either", func(_ int, w api.Path) api.Path { return alt(w, p("q")) }, "ab bc cd"},
		{"either, turned", func(_ int, w api.Path) api.Path { return inv(alt(p("q"), w)) }, "ba cb cd dc"},
		{"no kind at the last", func(i int, w api.Path) api.Path { return op(3+i/(deep-1)*8, w) }, ""},
		{"of all kinds", func(i int, w api.Path) api.Path { return op([]int{3, 6, 4, 2, 7}[i%5], w) }, "aa ab ac bb bc cc dd"},
	} {
		w := nested(p("p"), x.put)
		is(t, x.what, graph("apb bpc cqd"), w, letters(x.want))
		sames(t, w, nested(p("p"), x.put), true)
		sames(t, w, nested(p("P"), x.put), false)
	}
}

// TestWide: Kids as many as a caller may make.
func TestWide(t *testing.T) {
	l := slices.Repeat([]api.Path{p("p")}, 1<<18)
	g := ring(5)
	var round []pair
	for i := range 5 {
		round = append(round, pair{nth(i), nth((i + len(l)) % 5)})
	}
	is(t, "P1701", g, seq(l...), round)
	is(t, "P1701", g, inv(seq(l...)), swapped(round))
	is(t, "P1701", g, alt(l...), words(g, p("p")).row())
	is(t, "P1701", g, inv(alt(l...)), words(g, inv(p("p"))).row())
	is(t, "P1701", chain(40), seq(l...), nil)
	for _, n := range ones {
		is(t, "P1701", g, op(n, l...), nil)
	}
	other := slices.Clone(l)
	other[len(l)-1].S = "q"
	is(t, "P1701", g, seq(other...), nil)
	sames(t, seq(l...), seq(slices.Clone(l)...), true)
	sames(t, seq(l...), seq(other...), false)
}

// TestShared: ways that have one list in many places, so that they are of more paths than can be gone through.
func TestShared(t *testing.T) {
	a, b, c := p("p"), p("p"), p("q")
	for range 16 {
		a = seq(a, a)
	}
	g := ring(7)
	var round []pair
	for i := range 7 {
		round = append(round, pair{nth(i), nth((i + 1<<16) % 7)})
	}
	is(t, "P1701", g, a, round)
	is(t, "P1701", g, inv(a), swapped(round))
	a = p("p")
	for range 60 {
		a, b, c = seq(a, a), seq(b, b), seq(c, c)
	}
	ends(t, "Same of what has one list in many places", func() {
		sames(t, a, b, true)
		sames(t, a, c, false)
		sames(t, a, seq(a, a), false)
		sames(t, seq(a, a), seq(b, b), true)
		sames(t, seq(a, a), seq(b, c), false)
	})
}

// TestMuch (P1): great graphs and many ways, in a time that one may wait for.
func TestMuch(t *testing.T) {
	start := time.Now()
	var all []pair
	for i := range 300 {
		for k := range 300 {
			all = append(all, pair{nth(i), nth(k)})
		}
	}
	is(t, "P1701", ring(300), seq(slices.Repeat([]api.Path{star(p("p"))}, 200)...), all)
	is(t, "P1701", ring(300), nestedStars(200), all)
	long := chain(100000)
	if got := path.Ends(long, p("p")); len(got) != 99999 || got[777] != (pair{nth(777), nth(778)}) {
		t.Errorf("P1701: %d", len(got))
	}
	if got := path.Ends(long, seq(slices.Repeat([]api.Path{p("p")}, 100)...)); len(got) != 99900 || got[777] != (pair{nth(777), nth(877)}) {
		t.Errorf("P1701: %d", len(got))
	}
	if got := path.Ends(long, opt(inv(p("p")))); len(got) != 199999 || got[777] != (pair{nth(389), nth(388)}) {
		t.Errorf("P1701: %d", len(got))
	}
	if took := time.Since(start); took > time.Minute {
		t.Errorf("P1: %v", took)
	}
}

// nestedStars are so many stars, each of a row of one within it and a step.
func nestedStars(n int) api.Path {
	w := star(p("p"))
	for range n {
		w = star(seq(w, opt(p("p"))))
	}
	return w
}

// FuzzWays: a graph and two ways, told by bytes.
func FuzzWays(f *testing.F) {
	f.Add([]byte{}, []byte{1, 2, 3}, []byte{})
	f.Add([]byte{0, 1, 2, 2, 1, 0}, []byte{14, 10, 9, 8, 8}, []byte{14, 10, 9, 8, 8, 8})
	f.Fuzz(func(t *testing.T, x, y, z []byte) {
		var g []api.Triple
		for l := range slices.Chunk(x[:min(len(x), 90)], 3) {
			if len(l) == 3 {
				g = append(g, api.Triple{terms()[l[0]%10], ref([]string{"p", "q"}[l[1]%2]), terms()[int(l[2])%len(terms())]})
			}
		}
		g = inOrder(g)
		y, z = y[:min(len(y), 40)], z[:min(len(z), 40)]
		w, v := read(&y), read(&z)
		holds(t, g, w)
		lends(t, g, w)
		sames(t, w, v, same(w, v))
		is(t, "P1702", g, star(star(v)), path.Ends(g, star(v)))
		is(t, "P1702", g, inv(inv(v)), path.Ends(g, v))
	})
}

// read reads a way, and leaves what is behind it: of each byte the low part is its kind, the high part how many Kids.
func read(b *[]byte) api.Path {
	if len(*b) == 0 {
		return p("p")
	}
	c := int((*b)[0])
	*b = (*b)[1:]
	n, kids := c%9, c/9%4
	if n == api.PIri || n == 0 {
		return api.Path{Op: n, S: []string{"p", "q", "r"}[kids%3]}
	}
	if slices.Contains(ones, n) && kids != 2 {
		kids = 1
	}
	w := api.Path{Op: n}
	for range kids {
		w.Kids = append(w.Kids, read(b))
	}
	return w
}
