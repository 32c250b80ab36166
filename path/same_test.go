package path_test

import (
	"slices"
	"strconv"
	"testing"

	"triad/api"
	"triad/path"
)

// P1701: Same

// sames tells a fault where Same, either way about, does not answer that.
func sames(t *testing.T, a, b api.Path, want bool) {
	t.Helper()
	if path.Same(a, b) != want || path.Same(b, a) != want {
		t.Errorf("P1701: Same(%s, %s): not %v", tell(a), tell(b), want)
	}
}

// copied is the same way in other memory; where it has no Kids, they are an empty list.
func copied(w api.Path) api.Path {
	l := []api.Path{}
	for _, k := range w.Kids {
		l = append(l, copied(k))
	}
	return api.Path{Op: w.Op, S: string([]byte(w.S)), Kids: l}
}

// TestSame: ways of which no two are the same, and each one and its copy.
func TestSame(t *testing.T) {
	a, b := p("a"), p("b")
	l := []api.Path{
		{}, {S: "a"}, {Op: -1}, {Op: 8}, {Op: 1 << 40}, p(""), a, b, p("A"), p("aa"), p("a\x00"), p("\xff"), {Op: api.PInv, S: "a"}, {Op: api.PIri, S: "a", Kids: []api.Path{a}}, {Op: api.PIri, S: "a", Kids: []api.Path{{}}},
		seq(), alt(), op(api.PInv), op(api.PStar), op(api.PPlus), op(api.POpt),
		inv(a), star(a), plus(a), opt(a), seq(a), alt(a), inv(b), {Op: api.PInv, S: "x", Kids: []api.Path{a}}, {Op: api.PInv, S: "a", Kids: []api.Path{a}},
		seq(a, b), seq(b, a), seq(a, a), seq(b, b), seq(a, b, a), seq(a, a, b), seq(a, b, b), seq(b, a, a), seq(a, b, a, b), alt(a, b), alt(b, a), alt(a, a), inv(seq(a, b)), seq(inv(a), b), seq(a, inv(b)), seq(inv(a), inv(b)),
		inv(inv(a)), inv(star(a)), star(inv(a)), star(star(a)), star(plus(a)), plus(star(a)), seq(seq(a, b), a), seq(a, seq(b, a)), seq(seq(a), b), seq(seq(a, b)), seq(seq(), a), seq(a, seq()), alt(seq(a, b), seq(b, a)), alt(seq(b, a), seq(a, b)), alt(seq(a, b), seq(a, b)),
		seq(api.Path{}), seq(api.Path{}, api.Path{}), inv(inv(inv(inv(a)))), inv(inv(inv(inv(b)))), inv(inv(inv(star(a)))),
	}
	for i, x := range l {
		for k, y := range l {
			sames(t, x, y, i == k)
			sames(t, x, copied(y), i == k)
		}
	}
}

// TestSameKids: Kids that are nil or empty, and Kids that are not there but in the room behind.
func TestSameKids(t *testing.T) {
	sames(t, api.Path{Op: api.PSeq}, api.Path{Op: api.PSeq, Kids: []api.Path{}}, true)
	l := []api.Path{p("a"), p("b"), p("c")}
	sames(t, seq(l[:2]...), seq(p("a"), p("b")), true)
	sames(t, seq(l[:2]...), seq(l...), false)
	sames(t, seq(l[:0]...), seq(), true)
	sames(t, seq(l[1:]...), seq(l[:2]...), false)
	sames(t, seq(l[0], l[0]), seq(p("a"), p("a")), true)
	w := seq(l...)
	sames(t, w, w, true)
	sames(t, seq(w, w), seq(w, copied(w)), true)
	sames(t, seq(w, w), seq(w, seq(l[:2]...)), false)
}

// most is how many paths a way may be of.
const most = 1000

// changes are a way's copies, each of which has one thing changed at one place.
func changes(w api.Path) []api.Path {
	var out []api.Path
	change := func(how func(k *api.Path)) {
		for i := range size(w) {
			c := copied(w)
			how(at(&c, &i))
			out = append(out, c)
		}
	}
	change(func(k *api.Path) { k.Op++ })
	change(func(k *api.Path) { k.S += "x" })
	change(func(k *api.Path) { k.Kids = append(k.Kids, api.Path{}) })
	change(func(k *api.Path) {
		if len(k.Kids) > 0 {
			k.Kids = k.Kids[:len(k.Kids)-1]
		} else {
			k.Op = -k.Op - 1
		}
	})
	return out
}

// size is of how many paths a way is; at is the one of them that has so many ahead of it.
func size(w api.Path) int {
	n := 1
	for _, k := range w.Kids {
		n += size(k)
	}
	return n
}

func at(w *api.Path, i *int) *api.Path {
	if *i == 0 {
		return w
	}
	*i--
	for k := range w.Kids {
		x := at(&w.Kids[k], i)
		if x != nil {
			return x
		}
	}
	return nil
}

// TestSameMost: wide, deep, and both; changed at each place.
func TestSameMost(t *testing.T) {
	var steps, pairs []api.Path
	deep := p("s")
	for i := range most - 1 {
		steps = append(steps, p("s"+strconv.Itoa(i)))
		deep = op(1+i%7, deep)
	}
	for i := range (most - 1) / 3 {
		pairs = append(pairs, alt(steps[2*i:2*i+2]...))
	}
	tree := p("s")
	for range 8 {
		tree = seq(tree, tree)
	}
	comb := p("s")
	for i := range (most - 1) / 2 {
		comb = op(3+i%2, []api.Path{steps[i], comb}...)
	}
	for _, w := range []api.Path{seq(steps...), deep, seq(pairs...), tree, comb} {
		if n := size(w); n > most || n < most/2 {
			t.Fatalf("the test's own words: %d", n)
		}
		sames(t, w, w, true)
		sames(t, w, copied(w), true)
		for _, x := range changes(w) {
			if path.Same(w, x) {
				t.Fatalf("P1701: %s: a change is not seen", tell(w))
			}
		}
	}
	turned := slices.Clone(steps)
	slices.Reverse(turned)
	sames(t, seq(steps...), seq(turned...), false)
	sames(t, seq(steps...), seq(steps[1:]...), false)
	sames(t, alt(steps...), seq(steps...), false)
}

// same is Same by its words.
func same(a, b api.Path) bool {
	return a.Op == b.Op && a.S == b.S && slices.EqualFunc(a.Kids, b.Kids, same)
}

// TestSameThrown: thrown ways, their copies, and these with one thing changed; ways of the same few steps.
func TestSameThrown(t *testing.T) {
	var d die = 3
	var alike int
	for i := range 20000 {
		w, x := d.way(3, "p", "q"), d.way(3, "p", "q")
		if same(w, x) {
			alike++
		}
		sames(t, w, x, same(w, x))
		sames(t, w, copied(w), true)
		if i%10 == 0 {
			for _, y := range changes(w) {
				sames(t, w, y, same(w, y))
			}
		}
	}
	if alike < 100 {
		t.Errorf("the test's own words: %d", alike)
	}
}
