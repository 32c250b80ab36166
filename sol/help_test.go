package sol_test

import (
	"fmt"
	"maps"
	"slices"
	"strconv"
	"strings"
	"testing"

	"triad/api"
)

// Terms.

func ref(s string) api.Term { return api.Term{Kind: api.Iri, S: s} }

func node(s string) api.Term { return api.Term{Kind: api.Blank, S: s} }

func text(s string) api.Term { return api.Term{Kind: api.Literal, S: s} }

func spoken(s, lang string) api.Term { return api.Term{Kind: api.Literal, S: s, Lang: lang} }

func typed(s, y string) api.Term { return api.Term{Kind: api.Literal, S: s, Type: y} }

// terms are of each kind, and differ from one another by as little as may be.
func terms() []api.Term {
	return []api.Term{
		ref("q"), node("q"), text("q"), spoken("q", "en"), spoken("q", "e"), typed("q", "en"), typed("q", "e"),
		ref("qq"), node("qq"), text("qq"), text(""), text("q\""), text("\\q\n\t\r"), text("q \x00\xff"), typed("5", api.XInt),
	}
}

// of is a solution told in short: a=1 b=2; one of none: the empty text.
func of(s string) api.Sol {
	out := api.Sol{}
	for _, w := range strings.Fields(s) {
		name, x, _ := strings.Cut(w, "=")
		out = append(out, api.Pair{Name: name, T: ref(x)})
	}
	return out
}

// row is a row of these.
func row(l ...string) []api.Sol {
	var out []api.Sol
	for _, s := range l {
		out = append(out, of(s))
	}
	return out
}

// count is a row of n solutions of one variable, no two of them alike.
func count(name string, n int) []api.Sol {
	var out []api.Sol
	for i := range n {
		out = append(out, of(fmt.Sprintf("%s=%05d", name, i)))
	}
	return out
}

// again is a row of one solution, n times.
func again(s string, n int) []api.Sol { return slices.Repeat(row(s), n) }

// turned is a row the other way about.
func turned(l []api.Sol) []api.Sol {
	out := slices.Clone(l)
	slices.Reverse(out)
	return out
}

// said tells a row for a fault.
func said(l []api.Sol) string {
	var out []string
	for i, s := range l {
		if i == 8 {
			out = append(out, strconv.Itoa(len(l))+" in all")
			break
		}
		out = append(out, one(s))
	}
	return "[" + strings.Join(out, ", ") + "]"
}

func one(s api.Sol) string {
	x := strings.TrimSpace(textOf(s))
	if len(x) > 200 {
		x = x[:200] + ".." + strconv.Itoa(len(x))
	}
	return strconv.Quote(x)
}

func same(a, b []api.Sol) bool {
	return slices.EqualFunc(a, b, func(x, y api.Sol) bool { return slices.Equal(x, y) })
}

// The chapter's own words, of solutions as maps.

func known(s api.Sol) map[string]api.Term {
	m := map[string]api.Term{}
	for _, p := range s {
		m[p.Name] = p.T
	}
	return m
}

// inOrder is what a map knows, as a solution.
func inOrder(m map[string]api.Term) api.Sol {
	var out api.Sol
	for _, name := range slices.Sorted(maps.Keys(m)) {
		out = append(out, api.Pair{Name: name, T: m[name]})
	}
	return out
}

// meet is Meet; and whether they have a variable in common.
func meet(a, b api.Sol) (both api.Sol, shared, is bool) {
	all := known(a)
	for name, t := range known(b) {
		x, has := all[name]
		if has && x != t {
			return nil, false, false
		}
		shared = shared || has
		all[name] = t
	}
	return inOrder(all), shared, true
}

// textOf is Text.
func textOf(s api.Sol) string {
	var out string
	for _, p := range s {
		out += "?" + p.Name + " " + termOf(p.T) + " "
	}
	return out
}

func termOf(t api.Term) string {
	switch t.Kind {
	case api.Iri:
		return "<" + t.S + ">"
	case api.Blank:
		return "_:" + t.S
	}
	out := `"` + strings.NewReplacer("\t", `\t`, "\n", `\n`, "\r", `\r`, `"`, `\"`, `\`, `\\`).Replace(t.S) + `"`
	if t.Lang != "" {
		return out + "@" + t.Lang
	}
	if t.Type != "" {
		return out + "^^<" + t.Type + ">"
	}
	return out
}

// sorted is Sort.
func sorted(l []api.Sol) []api.Sol {
	by := map[string][]api.Sol{}
	for _, s := range l {
		by[textOf(s)] = append(by[textOf(s)], s)
	}
	var out []api.Sol
	for _, x := range slices.Sorted(maps.Keys(by)) {
		out = append(out, by[x]...)
	}
	return out
}

// join is Join; left tells whether it is Left.
func join(a, b []api.Sol, left bool) ([]api.Sol, api.Errno) {
	var out []api.Sol
	for _, x := range a {
		n := len(out)
		for _, y := range b {
			if both, _, is := meet(x, y); is {
				out = append(out, both)
			}
		}
		if left && len(out) == n {
			out = append(out, x)
		}
	}
	if len(out) > 2000 {
		return nil, api.ErrMany
	}
	return sorted(out), api.OK
}

// minus is Minus.
func minus(a, b []api.Sol) []api.Sol {
	return sorted(slices.DeleteFunc(slices.Clone(a), func(x api.Sol) bool {
		return slices.ContainsFunc(b, func(y api.Sol) bool {
			_, shared, is := meet(x, y)
			return shared && is
		})
	}))
}

// die throws numbers.
type die uint64

func (d *die) of(k int) int {
	*d = *d*6364136223846793005 + 1442695040888963407
	return int(uint64(*d) >> 33 % uint64(k))
}

// names are in order, and some are the beginning of others.
var names = []string{"A", "Z", "a", "a0", "a_", "aa", "aab", "b", "x123456789_0"}

// sol throws a solution: a few of the names, each with one of so many terms.
func (d *die) sol(some []string, l []api.Term, often int) api.Sol {
	var out api.Sol
	for _, name := range some {
		if d.of(often) == 0 {
			out = append(out, api.Pair{Name: name, T: l[d.of(len(l))]})
		}
	}
	return out
}

// row throws a row of at most so many.
func (d *die) row(most int, some []string, l []api.Term, often int) []api.Sol {
	var out []api.Sol
	for range d.of(most + 1) {
		out = append(out, d.sol(some, l, often))
	}
	return out
}

// shuffled is a row in an order that is thrown.
func (d *die) shuffled(l []api.Sol) []api.Sol {
	out := slices.Clone(l)
	for i := range out {
		k := d.of(i + 1)
		out[i], out[k] = out[k], out[i]
	}
	return out
}

// holds tells a fault where Join, Left, Minus or Sort of two rows is not as the chapter's words are.
func holds(t *testing.T, a, b []api.Sol) {
	t.Helper()
	joins(t, a, b)
	joins(t, b, a)
	lefts(t, a, b)
	takes(t, a, b)
	sorts(t, a)
}
