package path_test

import (
	"slices"
	"strings"
	"testing"

	"triad/api"
	"triad/path"
)

// P1701: Ends

// TestNoTriples: nothing leads anywhere, nor to itself (example 1).
func TestNoTriples(t *testing.T) {
	for _, g := range [][]api.Triple{nil, {}} {
		for _, w := range []api.Path{p("p"), star(p("p")), star(star(p("p"))), opt(p("p")), plus(p("p")), inv(star(p("p"))), seq(star(p("p")), opt(p("p"))), alt(opt(p("p")), p("q")), seq(), alt(), star(seq()), opt(alt()), {}} {
			is(t, "example 1", g, w, nil)
		}
	}
}

// TestStep: PIri.
func TestStep(t *testing.T) {
	for _, x := range [][3]string{
		{"apb", "p", "ab"}, {"apb", "q", ""}, {"apb", "", ""}, {"apb", "P", ""}, {"apb", "pp", ""}, {"apb", "a", ""}, {"apb", "b", ""},
		{"apa", "p", "aa"}, {"apa", "a", ""}, {"ppp", "p", "pp"}, {"apb bpa", "p", "ab ba"}, {"apb aqb", "p", "ab"}, {"apb aqb", "q", "ab"},
		{"apb apc apd", "p", "ab ac ad"}, {"apd bpd cpd", "p", "ad bd cd"}, {"apb apc bpb bpc", "p", "ab ac bb bc"},
		{"bpa apc cqa bqc cpc aqa dra", "p", "ac ba cc"}, {"bpa apc cqa bqc cpc aqa dra", "q", "aa bc ca"}, {"bpa apc cqa bqc cpc aqa dra", "r", "da"},
		{"apz bpy cpx dpw", "p", "az by cx dw"},
	} {
		leads(t, x[0], p(x[1]), x[2])
	}
	many := append(chain(300), api.Triple{nth(7), ref("q"), nth(3)})
	is(t, "P1701", inOrder(many), p("q"), []pair{{nth(7), nth(3)}})
	for _, s := range []string{"q", "qq", "q:", "Q", "q:r", ""} {
		holds(t, inOrder([]api.Triple{{ref("a"), ref("q:r"), ref("b")}, {ref("a"), ref("q"), ref("c")}, {ref("a"), ref("qq"), ref("d")}, {ref("q:"), ref("Q"), node("q")}}), p(s))
	}
}

// TestOrder: terms of all kinds, by the first and then by the second one; each pair once.
func TestOrder(t *testing.T) {
	l := terms()
	if !slices.IsSortedFunc(l, compare) {
		t.Fatal("the test's own words: the terms stand out of order")
	}
	var g []api.Triple
	var along, back, itself []pair
	for _, x := range l {
		itself = append(itself, pair{x, x})
		for _, y := range l {
			if x.Kind != api.Literal {
				g = append(g, api.Triple{x, ref("p"), y})
				along = append(along, pair{x, y})
			}
			if y.Kind != api.Literal {
				back = append(back, pair{x, y})
			}
		}
	}
	is(t, "P1701", g, p("p"), along)
	is(t, "P1701", g, inv(p("p")), back)
	is(t, "P1701", g, plus(p("p")), along)
	is(t, "P1701", g, plus(inv(p("p"))), back)
	is(t, "P1701", g, seq(p("p"), p("p")), along)
	is(t, "P1701", g, alt(p("p"), p("p"), p("p")), along)
	is(t, "P1701", g, star(p("q")), itself)
	is(t, "P1701", g, opt(p("q")), itself)
	for _, w := range []api.Path{star(p("p")), opt(p("p")), alt(p("p"), inv(p("p"))), seq(p("p"), inv(p("p"))), seq(inv(p("p")), p("p"))} {
		holds(t, g, w)
	}
}

// tangle is a graph in which ways cross.
const tangle = "apb apc bpc bqd cqa dpd eqd crf"

// kinds are ways of each kind, and of no kind.
func kinds() []api.Path {
	a, b, none := p("p"), p("q"), p("z")
	return []api.Path{
		a, b, none, {}, op(8, a), inv(a), inv(inv(b)), op(api.PInv), inv(none),
		seq(), seq(a), seq(a, b), seq(b, a), seq(a, a, b), seq(b, none), seq(a, inv(b)),
		alt(), alt(a), alt(a, b), alt(b, a, b), alt(none, a),
		plus(a), plus(seq(b, a)), plus(none), plus(alt(a, b)), star(a), star(b), star(none), star(seq(a, b)), opt(a), opt(b), opt(none), opt(seq(b, a)),
	}
}

// swapped are pairs the other way about, in order.
func swapped(l []pair) []pair {
	m := pairs{}
	for _, x := range l {
		m[pair{x[1], x[0]}] = true
	}
	return m.row()
}

// TestTurned: what is turned once, twice, and more often, of each kind of way.
func TestTurned(t *testing.T) {
	leads(t, "apb", inv(p("p")), "ba")
	leads(t, "apa", inv(p("p")), "aa")
	leads(t, "apb apc bpc", inv(p("p")), "ba ca cb")
	leads(t, "apb bqc", inv(seq(p("p"), p("q"))), "ca")
	leads(t, "apb bqc", inv(seq(p("q"), p("p"))), "")
	leads(t, "apb bqc crd", inv(seq(p("p"), p("q"), p("r"))), "da")
	leads(t, "apb cqb", inv(seq(p("p"), inv(p("q")))), "ca")
	leads(t, "apb bqc dre", inv(alt(seq(p("p"), p("q")), p("r"))), "ca ed")
	leads(t, "apb bpc", inv(plus(p("p"))), "ba ca cb")
	leads(t, "apb bpc", inv(star(p("p"))), "aa ba bb ca cb cc")
	leads(t, "apb bpc", inv(opt(p("p"))), "aa ba bb cb cc")
	leads(t, "apb bqc", plus(inv(seq(p("p"), p("q")))), "ca")
	for _, w := range kinds() {
		g := graph(tangle)
		along := path.Ends(g, w)
		for range 3 {
			is(t, "P1701", g, inv(w), swapped(along))
			w = inv(inv(w))
			is(t, "P1702", g, w, along)
		}
	}
}

// TestRow: PSeq.
func TestRow(t *testing.T) {
	a, b, c := p("p"), p("q"), p("r")
	for _, x := range []struct {
		g    string
		w    api.Path
		want string
	}{
		{"apb bqc", seq(), ""}, {"apb bqc", seq(a), "ab"}, {"apb bqc", seq(a, b), "ac"}, {"apb bqc", seq(b, a), ""}, {"apb bqc", seq(a, a), ""},
		{"apb bqc crd", seq(a, b, c), "ad"}, {"apb bqc crd", seq(seq(a, b), c), "ad"}, {"apb bqc crd", seq(a, seq(b, c)), "ad"}, {"apb bqc crd", seq(a, c), ""}, {"apb bqc crd", seq(a, c, b), ""}, {"apb bqc crd", seq(c, b, a), ""},
		{"apb cqd", seq(a, b), ""}, {"apb bqc", seq(a, p("z")), ""}, {"apb bqc", seq(p("z"), b), ""}, {"apb bqc", seq(a, p("z"), b), ""},
		{"apx apy xqb yqb", seq(a, b), "ab"}, {"apx bpx xqc xqd", seq(a, b), "ac ad bc bd"}, {"apx apy xqb yqc", seq(a, b), "ab ac"}, {"apx bpy xqc yqc", seq(a, b), "ac bc"},
		{"apa", seq(a, a), "aa"}, {"apa", seq(a, a, a, a, a, a, a), "aa"}, {"apb bpa", seq(a, a), "aa bb"}, {"apb bpa", seq(a, a, a), "ab ba"}, {"apb bpc cpa", seq(a, a), "ac ba cb"}, {"apb bpc cpa", seq(a, a, a), "aa bb cc"},
		{"apb bpc", seq(a, seq(), a), ""}, {"apb bpc", seq(seq(), a), ""}, {"apb bpc", seq(a, seq()), ""}, {"apb bpc", seq(a, alt()), ""}, {"apb bpc", seq(a, op(0)), ""}, {"apb bpc", seq(op(api.PInv), a), ""},
		{"apb bpc", seq(a, star(p("z")), a), "ac"}, {"apb bpc", seq(opt(p("z"))), "aa bb cc"}, {"apb bpc", seq(opt(a), opt(a)), "aa ab ac bb bc cc"}, {"apb bpc", seq(star(seq()), a), "ab bc"},
	} {
		leads(t, x.g, x.w, x.want)
	}
	for n := range 40 {
		var l []api.Path
		for range n {
			l = append(l, a)
		}
		holds(t, chain(20), seq(l...))
		holds(t, ring(7), seq(l...))
		holds(t, graph(tangle), seq(append(l, b)...))
	}
}

// TestEither: PAlt.
func TestEither(t *testing.T) {
	a, b, c := p("p"), p("q"), p("r")
	for _, x := range []struct {
		g    string
		w    api.Path
		want string
	}{
		{"apb bqc", alt(), ""}, {"apb bqc", alt(a), "ab"}, {"apb bqc", alt(a, a), "ab"}, {"apb bqc", alt(a, b), "ab bc"}, {"apb bqc", alt(b, a), "ab bc"}, {"apb bqc", alt(a, b, a, b, a), "ab bc"},
		{"apb aqb", alt(a, b), "ab"}, {"apb apc aqc aqd", alt(a, b), "ab ac ad"}, {"apb bqc crd", alt(a, b, c), "ab bc cd"}, {"apb bqc crd", alt(alt(c, b), a), "ab bc cd"}, {"apb bqc crd", alt(a, c), "ab cd"},
		{"apb bqc", alt(a, p("z")), "ab"}, {"apb bqc", alt(p("z"), p("y")), ""}, {"apb bqc", alt(op(0), a, op(api.PStar), seq()), "ab"}, {"apb bqc", alt(alt(), alt()), ""},
		{"apb bqc", alt(seq(a, b), a), "ab ac"}, {"apb bqa", alt(a, inv(b)), "ab"}, {"apb bqa", alt(a, inv(a)), "ab ba"}, {"apb bqa", seq(alt(a, b), alt(a, b)), "aa bb"},
		{"dpa cqa bpa arz", alt(b, a, c), "az ba ca da"},
	} {
		leads(t, x.g, x.w, x.want)
	}
}

// TestAgain: PPlus.
func TestAgain(t *testing.T) {
	a, b := p("p"), p("q")
	for _, x := range []struct {
		g    string
		w    api.Path
		want string
	}{
		{"apb", plus(a), "ab"}, {"apb bpc cpd", plus(a), "ab ac ad bc bd cd"}, {"apb cpd", plus(a), "ab cd"}, {"apb bqc cpd", plus(a), "ab cd"},
		{"apa", plus(a), "aa"}, {"apa apb", plus(a), "aa ab"}, {"apb bpb", plus(a), "ab bb"}, {"apb bpa", plus(a), "aa ab ba bb"}, {"apb bpc cpa", plus(a), "aa ab ac ba bb bc ca cb cc"},
		{"apb bpa bpc cpb", plus(a), "aa ab ac ba bb bc ca cb cc"}, {"apb bpc cpa cpd dpe epc", plus(a), "aa ab ac ad ae ba bb bc bd be ca cb cc cd ce da db dc dd de ea eb ec ed ee"}, {"apb bpa bpc cpd dpc", plus(a), "aa ab ac ad ba bb bc bd cc cd dc dd"},
		{"apb bpa cpd dpc", plus(a), "aa ab ba bb cc cd dc dd"}, {"xpa apb bpa bpy", plus(a), "aa ab ay ba bb by xa xb xy"},
		{"apb", plus(b), ""}, {"apb", plus(seq()), ""}, {"apb", plus(op(0)), ""}, {"apb", plus(seq(a, a)), ""}, {"apb bpc cpd dpe", plus(seq(a, a)), "ac ae bd ce"}, {"apb bpc cpa", plus(seq(a, a)), "aa ab ac ba bb bc ca cb cc"},
		{"apb bqc cpd dqe", plus(alt(a, b)), "ab ac ad ae bc bd be cd ce de"}, {"apb bqc cpd dqe", plus(seq(a, b)), "ac ae ce"}, {"apb cpb cpd", plus(seq(a, inv(a))), "aa ac ca cc"},
		{"apb bpc", plus(plus(a)), "ab ac bc"}, {"apb bpc", plus(inv(a)), "ba ca cb"}, {"apb bpc", plus(opt(a)), "aa ab ac bb bc cc"}, {"apb bpc", plus(star(a)), "aa ab ac bb bc cc"},
		{"apb bqc", seq(plus(a), plus(b)), "ac"}, {"apb apc", alt(plus(a), b), "ab ac"}, {"apb bpc bqd", seq(plus(a), b), "ad"}, {"apb bpc dqa dqb", seq(b, plus(a)), "db dc"},
	} {
		leads(t, x.g, x.w, x.want)
	}
	for n := range 30 {
		holds(t, chain(n+1), plus(a))
		holds(t, ring(n+1), plus(a))
		holds(t, ring(n+1), plus(seq(a, a, a)))
		holds(t, inOrder(append(chain(n+9), append(ring(n+1), api.Triple{nth(n + 5), ref("p"), nth(3)})...)), plus(a))
	}
}

// TestNone: PStar and POpt, which lead from each subject and object to itself.
func TestNone(t *testing.T) {
	a, none := p("p"), p("z")
	for _, w := range []api.Path{star(none), opt(none), star(seq()), opt(alt()), star(op(0)), opt(op(-1)), star(op(api.PInv)), opt(op(api.PPlus, a, a)), star(inv(none)), opt(plus(none)), star(opt(none)), opt(star(none)), star(seq(a, none)), star(p("a")), opt(p("b"))} {
		leads(t, "apb", w, "aa bb")
		leads(t, "apa", w, "aa")
		leads(t, "apb bqc dpb", w, "aa bb cc dd")
		leads(t, "apq qpr", w, "aa qq rr") // q is a subject and an object, but p is none
		leads(t, "ppp", w, "pp")
		leads(t, "cpa bpa", w, "aa bb cc")
	}
	for _, x := range []struct {
		g    string
		w    api.Path
		want string
	}{
		{"apb bpc", star(a), "aa ab ac bb bc cc"}, {"apb bpc", opt(a), "aa ab bb bc cc"}, {"apb bpc", star(seq(a, a)), "aa ac bb cc"}, {"apb bpc", opt(seq(a, a)), "aa ac bb cc"},
		{"apb bpa", star(a), "aa ab ba bb"}, {"apb bpa", opt(a), "aa ab ba bb"}, {"apa", star(a), "aa"}, {"apa bqa", opt(a), "aa bb"}, {"apb bpc cpa", opt(a), "aa ab bb bc ca cc"}, {"apb bpc cpa", star(a), "aa ab ac ba bb bc ca cb cc"},
		{"apb bpc", star(inv(a)), "aa ba bb ca cb cc"}, {"apb bpc", opt(inv(a)), "aa ba bb cb cc"}, {"apb bpc", star(star(a)), "aa ab ac bb bc cc"}, {"apb bpc", opt(opt(a)), "aa ab bb bc cc"}, {"apb bpc", star(opt(a)), "aa ab ac bb bc cc"}, {"apb bpc", opt(star(a)), "aa ab ac bb bc cc"}, {"apb bpc", opt(plus(a)), "aa ab ac bb bc cc"},
		{"apb bqc", seq(star(a), star(p("q"))), "aa ab ac bb bc cc"}, {"apb bqc", seq(star(p("q")), star(a)), "aa ab bb bc cc"}, {"apb bqc", seq(opt(a), p("q")), "ac bc"}, {"apb bqc", seq(p("q"), opt(a)), "bc"}, {"apb bqc", alt(star(p("z")), p("q")), "aa bb bc cc"},
		{"apb bpc bqd", seq(star(a), p("q")), "ad bd"}, {"apb bpc dqa", seq(p("q"), star(a)), "da db dc"},
	} {
		leads(t, x.g, x.w, x.want)
	}
	for n := range 30 {
		for _, w := range []api.Path{star(a), opt(a), star(none), star(seq(a, a)), opt(seq(a, a, a))} {
			holds(t, chain(n+1), w)
			holds(t, ring(n+1), w)
		}
	}
}

// TestNoWay: what is of no kind, or of a wrong number of Kids, leads nowhere; what a kind does not ask for counts nothing.
func TestNoWay(t *testing.T) {
	a, b := p("p"), p("q")
	for _, n := range []int{0, -1, 8, 9, 100, -7, 1 << 40, -1 << 62, 1<<63 - 1} {
		for _, w := range []api.Path{op(n), op(n, a), op(n, a, b), {Op: n, S: "p"}, {Op: n, S: "p", Kids: []api.Path{a}}} {
			leads(t, tangle, w, "")
			leads(t, tangle, seq(a, w), "")
			leads(t, "apb bqc", alt(w, b), "bc")
		}
	}
	for _, n := range ones {
		for _, w := range []api.Path{op(n), {Op: n, S: "p"}, op(n, a, b), op(n, a, a), op(n, a, op(0)), op(n, op(0), a), op(n, a, b, a)} {
			leads(t, tangle, w, "")
			leads(t, tangle, inv(w), "")
			leads(t, tangle, seq(a, w, b), "")
			leads(t, "apb bqc", alt(w, b), "bc")
			leads(t, "apb bqc", opt(w), "aa bb cc")
		}
		holds(t, graph(tangle), api.Path{Op: n, S: "q", Kids: []api.Path{a}})
	}
	for _, n := range manies {
		holds(t, graph(tangle), api.Path{Op: n, S: "q", Kids: []api.Path{a, b}})
		leads(t, tangle, api.Path{Op: n, S: "q"}, "")
	}
	leads(t, "apb bqc", api.Path{Op: api.PIri, S: "p", Kids: []api.Path{b}}, "ab")
	leads(t, "apb bqc", api.Path{Op: api.PIri, S: "p", Kids: []api.Path{{}, b}}, "ab")
	leads(t, "apb bqc", api.Path{Op: api.PIri, Kids: []api.Path{b}}, "")
}

// TestWithin: each operator within each other one, and that within each.
func TestWithin(t *testing.T) {
	put := func(l, beside []api.Path) []api.Path {
		var out []api.Path
		for _, w := range l {
			for _, n := range ones {
				out = append(out, op(n, w))
			}
			for _, n := range manies {
				out = append(out, op(n), op(n, w))
				for _, x := range beside {
					out = append(out, op(n, w, x), op(n, x, w))
				}
			}
		}
		return out
	}
	steps := []api.Path{p("p"), p("q")}
	two := put(put(steps, steps), steps)
	var d die = 4
	for _, w := range two {
		holds(t, graph(tangle), w)
		holds(t, d.graph(8, terms()[:7], "p", "q"), w)
	}
	for i, w := range put(two, nil) {
		if i%3 == 0 {
			holds(t, graph("apb bpc cqa"), w)
		}
	}
}

// TestEachGraph: each graph of two terms and two predicates, and of three terms and one.
func TestEachGraph(t *testing.T) {
	for _, all := range []string{"apa apb bpa bpb aqa aqb bqa bqb", "apa apb apc bpa bpb bpc cpa cpb cpc"} {
		l := strings.Fields(all)
		for some := range 1 << len(l) {
			var s string
			for i, x := range l {
				if some>>i&1 == 1 {
					s += x + " "
				}
			}
			for _, w := range kinds() {
				holds(t, graph(s), w)
			}
		}
	}
}

// TestThrown: ways and graphs.
func TestThrown(t *testing.T) {
	var d die = 1
	var some, none int
	for range 20000 {
		l := []api.Term{terms()[d.of(10)]} // which may be a subject
		for range 1 + d.of(4) {
			l = append(l, terms()[d.of(len(terms()))])
		}
		g, w := d.graph(14, l, "p", "q"), d.way(4, "p", "q", "p", "q", "r")
		holds(t, g, w)
		if len(words(g, w)) > 0 {
			some++
		} else {
			none++
		}
	}
	if some < 8000 || none < 1000 {
		t.Errorf("the test's own words: %d, %d", some, none)
	}
	for range 1000 {
		holds(t, d.graph(60, terms(), "p", "q", "r"), d.way(5, "p", "q", "r"))
	}
}

// P1702

// TestLaws: a star of a star, what is turned twice, and what follows of the words besides.
func TestLaws(t *testing.T) {
	var d die = 2
	for range 3000 {
		g := d.graph(20, terms()[:12], "p", "q")
		w, x := d.way(3, "p", "q"), d.way(2, "p", "q")
		for _, l := range [][2]api.Path{
			{star(w), star(star(w))}, {w, inv(inv(w))},
			{star(w), opt(plus(w))}, {star(w), plus(opt(w))}, {plus(w), plus(plus(w))}, {opt(w), opt(opt(w))}, {plus(w), seq(w, star(w))}, {plus(w), seq(star(w), w)},
			{inv(star(w)), star(inv(w))}, {inv(plus(w)), plus(inv(w))}, {inv(opt(w)), opt(inv(w))}, {inv(seq(w, x)), seq(inv(x), inv(w))}, {inv(alt(w, x)), alt(inv(w), inv(x))},
			{alt(w, x), alt(x, w)}, {alt(w, w), w}, {seq(w), w}, {alt(w), w}, {star(alt(w, x)), star(seq(star(w), star(x)))}, {seq(w, alt(x, w)), alt(seq(w, x), seq(w, w))},
		} {
			is(t, "P1702", g, l[1], path.Ends(g, l[0]))
		}
	}
}
