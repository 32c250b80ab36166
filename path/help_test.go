package path_test

import (
	"cmp"
	"slices"
	"strconv"
	"strings"
	"testing"

	"triad/api"
	"triad/path"
)

// Terms, graphs and ways.

func ref(s string) api.Term { return api.Term{Kind: api.Iri, S: s} }

func node(s string) api.Term { return api.Term{Kind: api.Blank, S: s} }

func text(s string) api.Term { return api.Term{Kind: api.Literal, S: s} }

func spoken(s, lang string) api.Term { return api.Term{Kind: api.Literal, S: s, Lang: lang} }

func typed(s, y string) api.Term { return api.Term{Kind: api.Literal, S: s, Type: y} }

// terms are of each kind, in order, and differ from one another by as little as may be.
func terms() []api.Term {
	return []api.Term{
		node("Z"), node("_"), node("a"), node("aa"), node("q"),
		ref("Z"), ref("a"), ref("a:b"), ref("aa"), ref("q"),
		text(""), typed("", "a"), spoken("", "a"), text("\x00\xff"), text("Z"), text("a"), typed("a", "a"), typed("a", "aa"), spoken("a", "a"), spoken("a", "aa"), spoken("a", "b"), text("aa"), text("q"), text("é"),
	}
}

// graph is one of IRIs of a letter each, told in short: apb.
func graph(s string) []api.Triple {
	var l []api.Triple
	for _, w := range strings.Fields(s) {
		l = append(l, api.Triple{ref(w[:1]), ref(w[1:2]), ref(w[2:])})
	}
	return inOrder(l)
}

// inOrder is the graph of triples.
func inOrder(l []api.Triple) []api.Triple {
	out := slices.Clone(l)
	slices.SortFunc(out, func(a, b api.Triple) int {
		return cmp.Or(compare(a[0], b[0]), compare(a[1], b[1]), compare(a[2], b[2]))
	})
	return slices.Compact(out)
}

// chain leads from each of so many terms to the next one; a ring leads on to the first one, too.
func chain(n int) []api.Triple {
	var l []api.Triple
	for i := range n - 1 {
		l = append(l, api.Triple{nth(i), ref("p"), nth(i + 1)})
	}
	return l
}

func ring(n int) []api.Triple {
	return inOrder(append(chain(n), api.Triple{nth(n - 1), ref("p"), nth(0)}))
}

func nth(i int) api.Term { return ref("n" + strconv.Itoa(1000000+i)) }

func p(s string) api.Path { return api.Path{Op: api.PIri, S: s} }

func op(n int, l ...api.Path) api.Path { return api.Path{Op: n, Kids: l} }

func inv(w api.Path) api.Path { return op(api.PInv, w) }

func seq(l ...api.Path) api.Path { return op(api.PSeq, l...) }

func alt(l ...api.Path) api.Path { return op(api.PAlt, l...) }

func star(w api.Path) api.Path { return op(api.PStar, w) }

func plus(w api.Path) api.Path { return op(api.PPlus, w) }

func opt(w api.Path) api.Path { return op(api.POpt, w) }

// ones are the operators of one Kid, manies those of any number of them.
var (
	ones   = []int{api.PInv, api.PPlus, api.PStar, api.POpt}
	manies = []int{api.PSeq, api.PAlt}
)

// tell tells a way for a fault, the beginning of it.
func tell(w api.Path) string {
	s := way(w, 6)
	if len(s) > 300 {
		s = s[:300] + ".."
	}
	return s
}

func way(w api.Path, deep int) string {
	if deep == 0 {
		return ".."
	}
	var l []string
	for i, k := range w.Kids {
		if i == 8 {
			l = append(l, strconv.Itoa(len(w.Kids))+" in all")
			break
		}
		l = append(l, way(k, deep-1))
	}
	return w.S + [...]string{"none", "", "^", "/", "|", "*", "+", "?", "other"}[min(max(w.Op, 0), 8)] + "(" + strings.Join(l, " ") + ")"
}

// said tells triples or pairs for a fault, the beginning of them.
func said[T api.Triple | pair](l []T) string {
	var out []string
	for i, x := range l {
		if i == 20 {
			out = append(out, strconv.Itoa(len(l))+" in all")
			break
		}
		var s []string
		for _, t := range parts(x) {
			s = append(s, strings.Repeat("_", min(max(t.Kind, 0), 5))+strconv.Quote(t.S[:min(len(t.S), 40)])+t.Lang+t.Type)
		}
		out = append(out, strings.Join(s, " "))
	}
	return "[" + strings.Join(out, ", ") + "]"
}

// parts are the terms of a triple or a pair.
func parts(x any) []api.Term {
	switch y := x.(type) {
	case api.Triple:
		return y[:]
	case pair:
		return y[:]
	}
	return nil
}

// The chapter's own words, of sets of pairs.

type pair = [2]api.Term

type pairs map[pair]bool

// compare is term.Compare of terms that may be.
func compare(a, b api.Term) int {
	rank := func(t api.Term) int { return slices.Index([]int{api.Blank, api.Iri, api.Literal}, t.Kind) }
	return cmp.Or(rank(a)-rank(b), strings.Compare(a.S, b.S), strings.Compare(a.Lang, b.Lang), strings.Compare(a.Type, b.Type))
}

// words are what a way leads between.
func words(g []api.Triple, w api.Path) pairs {
	if slices.Contains(ones, w.Op) {
		if len(w.Kids) != 1 {
			return nil
		}
		return often(g, w.Op, words(g, w.Kids[0]))
	}
	out := pairs{}
	switch w.Op {
	case api.PIri:
		for _, t := range g {
			if t[1] == ref(w.S) {
				out[pair{t[0], t[2]}] = true
			}
		}
	case api.PSeq:
		for i, k := range w.Kids {
			if i == 0 {
				out = words(g, k)
			} else {
				out = behind(out, words(g, k))
			}
		}
	case api.PAlt:
		for _, k := range w.Kids {
			put(out, words(g, k))
		}
	}
	return out
}

// often is what an operator makes of what its only Kid leads between.
func often(g []api.Triple, n int, kid pairs) pairs {
	out := pairs{}
	if n == api.PInv {
		for x := range kid {
			out[pair{x[1], x[0]}] = true
		}
		return out
	}
	put(out, kid)
	for had := -1; n != api.POpt && had < len(out); {
		had = len(out)
		put(out, behind(out, kid))
	}
	if n != api.PPlus {
		for _, t := range g {
			out[pair{t[0], t[0]}], out[pair{t[2], t[2]}] = true, true
		}
	}
	return out
}

func put(all, l pairs) {
	for x := range l {
		all[x] = true
	}
}

// behind is what two ways, one behind the other, lead between.
func behind(a, b pairs) pairs {
	on := map[api.Term][]api.Term{}
	for y := range b {
		on[y[0]] = append(on[y[0]], y[1])
	}
	out := pairs{}
	for x := range a {
		for _, z := range on[x[1]] {
			out[pair{x[0], z}] = true
		}
	}
	return out
}

// row are pairs in order.
func (l pairs) row() []pair {
	var out []pair
	for x := range l {
		out = append(out, x)
	}
	slices.SortFunc(out, func(a, b pair) int { return cmp.Or(compare(a[0], b[0]), compare(a[1], b[1])) })
	return out
}

// is tells a fault where Ends does not answer that.
func is(t *testing.T, what string, g []api.Triple, w api.Path, want []pair) {
	t.Helper()
	if got := path.Ends(g, w); !slices.Equal(got, want) {
		t.Errorf("%s: of %s, %s: %s, not %s", what, said(g), tell(w), said(got), said(want))
	}
}

// holds tells a fault where Ends is not as the chapter's words are.
func holds(t *testing.T, g []api.Triple, w api.Path) {
	t.Helper()
	is(t, "P1701", g, w, words(g, w).row())
}

// leads tells a fault where a way of a graph of letters does not lead between these: ab cd.
func leads(t *testing.T, g string, w api.Path, want string) {
	t.Helper()
	is(t, "P1701", graph(g), w, letters(want))
	holds(t, graph(g), w)
}

// letters are pairs of IRIs of a letter each.
func letters(s string) []pair {
	var l []pair
	for _, x := range strings.Fields(s) {
		l = append(l, pair{ref(x[:1]), ref(x[1:])})
	}
	return l
}

// die throws numbers.
type die uint64

func (d *die) of(k int) int {
	*d = *d*6364136223846793005 + 1442695040888963407
	return int(uint64(*d) >> 33 % uint64(k))
}

// graph throws a graph of at most so many triples, of the terms.
func (d *die) graph(most int, l []api.Term, predicates ...string) []api.Triple {
	var out []api.Triple
	for range d.of(most + 1) {
		s := l[d.of(len(l))]
		for s.Kind == api.Literal {
			s = l[d.of(len(l))]
		}
		out = append(out, api.Triple{s, ref(predicates[d.of(len(predicates))]), l[d.of(len(l))]})
	}
	return inOrder(out)
}

// way throws one that is at most so deep; some are none.
func (d *die) way(deep int, predicates ...string) api.Path {
	if deep == 0 || d.of(8) == 0 {
		return p(predicates[d.of(len(predicates))])
	}
	if d.of(2) == 0 {
		return op(ones[d.of(len(ones))], d.way(deep-1, predicates...))
	}
	if d.of(60) == 0 {
		return op(d.of(10)-1, d.way(deep-1, predicates...), d.way(deep-1, predicates...))
	}
	var l []api.Path
	for range []int{0, 1, 1, 1, 2, 2, 2, 2, 2, 2, 3, 3}[d.of(12)] {
		l = append(l, d.way(deep-1, predicates...))
	}
	return op(manies[d.of(2)], l...)
}
