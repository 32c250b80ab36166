package sol_test

import (
	"fmt"
	"slices"
	"testing"

	"triad/api"
	"triad/sol"
)

// joins, lefts, takes, sorts tell a fault where Join, Left, Minus, Sort is not as the chapter's words are.

func joins(t *testing.T, a, b []api.Sol) {
	t.Helper()
	got, e := sol.Join(a, b)
	want, f := join(a, b, false)
	if e != f || !same(got, want) {
		t.Errorf("P1602: Join(%s, %s): %s %v, not %s %v", said(a), said(b), said(got), e, said(want), f)
	}
}

func lefts(t *testing.T, a, b []api.Sol) {
	t.Helper()
	got, e := sol.Left(a, b)
	want, f := join(a, b, true)
	if e != f || !same(got, want) {
		t.Errorf("P1602: Left(%s, %s): %s %v, not %s %v", said(a), said(b), said(got), e, said(want), f)
	}
}

func takes(t *testing.T, a, b []api.Sol) {
	t.Helper()
	if got, want := sol.Minus(a, b), minus(a, b); !same(got, want) {
		t.Errorf("P1602: Minus(%s, %s): %s, not %s", said(a), said(b), said(got), said(want))
	}
}

func sorts(t *testing.T, l []api.Sol) {
	t.Helper()
	if got, want := sol.Sort(l), sorted(l); !same(got, want) {
		t.Errorf("P1601: Sort(%s): %s, not %s", said(l), said(got), said(want))
	}
}

// is tells a fault where a row is another one.
func is(t *testing.T, what string, got, want []api.Sol) {
	t.Helper()
	if !same(got, want) {
		t.Errorf("%s: %s, not %s", what, said(got), said(want))
	}
}

// P1601

// TestSort: rows told in order, sorted as they are, the other way about, and in orders that are thrown.
func TestSort(t *testing.T) {
	var d die = 1
	var mixed []api.Sol
	for _, x := range []api.Term{text("x"), spoken("x", "en"), typed("x", "a"), ref("x"), node("x")} {
		mixed = append(mixed, api.Sol{{Name: "a", T: x}})
	}
	for _, l := range [][]api.Sol{
		nil, row(""), row("a=1"), row("", ""), row("", "a=1"), row("a=1", "a=1"), row("", "", "a=1", "a=1", "a=1", "b=1", "b=1"),
		row("a=1", "a=1 b=1", "a=1 b=2", "a=1 c=1", "a=2", "a=2 b=1", "b=1", "b=2"),
		row("A=1", "Z=9", "a=1", "a0=1", "a_=1", "aa=1", "b=1"),
		row("a=!", "a==", "a=A", "a=a", "a=é"),
		row("a=10", "a=1", "a=2"),     // '0' is ahead of '>'
		row("a=1", "a=1A", "a=1a"),    // letters are behind it
		row("a=1 b=2", "aa=1", "b=0"), // a blank is ahead of all
		mixed,
		{{{Name: "a", T: text("!")}}, {{Name: "a", T: text("")}}, {{Name: "a", T: text("[")}}, {{Name: "a", T: text("\"")}}, {{Name: "a", T: text("\\")}}, {{Name: "a", T: text("\n")}}, {{Name: "a", T: text("\r")}}, {{Name: "a", T: text("\t")}}, {{Name: "a", T: text("]")}}},
	} {
		is(t, "P1601: Sort", sol.Sort(l), l)
		is(t, "P1601: Sort", sol.Sort(turned(l)), l)
		for range 20 {
			is(t, "P1601: Sort", sol.Sort(d.shuffled(l)), l)
		}
	}
	is(t, "P1601: Sort", sol.Sort([]api.Sol{{}, nil, {}}), row("", "", ""))
}

// TestSortMany: none is left out, however many there are.
func TestSortMany(t *testing.T) {
	var d die = 2
	l := append(count("a", 3000), again("a=00007", 2001)...)
	got := sol.Sort(d.shuffled(l))
	is(t, "P1601: Sort", got, sorted(l))
	if len(got) != 5001 {
		t.Errorf("P1601: %d", len(got))
	}
	sorts(t, d.row(3000, names, terms(), 2))
}

// P1602

func TestJoin(t *testing.T) {
	for _, x := range [][3][]api.Sol{
		{nil, nil, nil}, {nil, row(""), nil}, {nil, row("a=1", "b=1"), nil},
		{row(""), row(""), row("")}, {row(""), row("b=1", "a=1"), row("a=1", "b=1")}, {row("", ""), row("b=1", "a=1"), row("a=1", "a=1", "b=1", "b=1")},
		{row("", ""), row("", "", ""), row("", "", "", "", "", "")},
		{row("a=1", "a=2"), row("b=1", "b=2"), row("a=1 b=1", "a=1 b=2", "a=2 b=1", "a=2 b=2")},
		{row("b=1", "b=2"), row("a=1", "a=2"), row("a=1 b=1", "a=1 b=2", "a=2 b=1", "a=2 b=2")},
		{row("a=1", "a=2"), row("a=3", "a=4"), nil}, {row("a=1 b=1"), row("a=1 b=2", "a=2 b=1"), nil},
		{row("a=1", "a=2"), row("a=2", "a=3"), row("a=2")}, {row("a=1 b=1", "a=1 b=2"), row("b=2 c=3", "b=1 c=4"), row("a=1 b=1 c=4", "a=1 b=2 c=3")},
		{row("a=1", "a=1"), row("a=1", "a=1", "a=1"), again("a=1", 6)}, {row("a=1", "a=1", "a=2"), row("b=1", "a=2"), row("a=1 b=1", "a=1 b=1", "a=2", "a=2 b=1")},
		{row("a=1", "b=1"), row("a=1", "b=1"), row("a=1", "a=1 b=1", "a=1 b=1", "b=1")},
		{row("a=1", ""), row("", "a=2", "a=1"), row("", "a=1", "a=1", "a=1", "a=2")},
	} {
		for _, l := range [][2][]api.Sol{{x[0], x[1]}, {x[1], x[0]}, {turned(x[0]), x[1]}, {x[1], turned(x[0])}} {
			got, e := sol.Join(l[0], l[1])
			is(t, "P1602: Join", got, x[2])
			if e != api.OK {
				t.Errorf("P1602: %v", e)
			}
		}
	}
}

// TestJoinThree: of three, any two may be joined first.
func TestJoinThree(t *testing.T) {
	three := func(a, b, c []api.Sol) []api.Sol {
		l, e := sol.Join(a, b)
		if e != api.OK {
			t.Fatal(e)
		}
		m, e := sol.Join(l, c)
		if e != api.OK {
			t.Fatal(e)
		}
		return m
	}
	a, b, c := row("a=1", "a=2 c=1", ""), row("b=1", "a=2", "b=2"), row("b=2 c=1", "c=2", "a=1 c=1")
	want := row("a=1 b=1 c=1", "a=1 b=1 c=1", "a=1 b=1 c=2", "a=1 b=2 c=1", "a=1 b=2 c=1", "a=1 b=2 c=1", "a=1 b=2 c=2", "a=2 b=2 c=1", "a=2 b=2 c=1", "a=2 b=2 c=1", "a=2 c=2", "b=1 c=2", "b=2 c=1", "b=2 c=2")
	is(t, "P1602: three", three(a, b, c), want)
	var d die = 5
	for range 300 {
		l := [][]api.Sol{d.row(4, names[:3], terms()[:2], 2), d.row(4, names[:3], terms()[:2], 2), d.row(4, names[:3], terms()[:2], 2)}
		want := three(l[0], l[1], l[2])
		for _, o := range [][3]int{{0, 2, 1}, {1, 0, 2}, {1, 2, 0}, {2, 0, 1}, {2, 1, 0}} {
			is(t, "P1603: three", three(l[o[0]], l[o[1]], l[o[2]]), want)
		}
	}
}

func TestLeft(t *testing.T) {
	for _, x := range [][3][]api.Sol{
		{nil, nil, nil}, {nil, row(""), nil}, {nil, row("a=1"), nil}, {row(""), nil, row("")}, {row("b=1", "a=1", "a=1"), nil, row("a=1", "a=1", "b=1")},
		{row("a=1"), row(""), row("a=1")}, {row("a=1"), row("", ""), row("a=1", "a=1")}, {row(""), row("a=1", "a=2"), row("a=1", "a=2")},
		{row("a=1", "a=2"), row("a=3", "a=4"), row("a=1", "a=2")}, {row("a=2", "a=1", "a=2"), row("a=3"), row("a=1", "a=2", "a=2")},
		{row("a=1", "a=2"), row("a=2 b=1", "a=2 b=2"), row("a=1", "a=2 b=1", "a=2 b=2")}, {row("a=2", "a=1"), row("a=1 b=1", "a=3"), row("a=1 b=1", "a=2")},
		{row("a=1", "a=1"), row("b=1"), row("a=1 b=1", "a=1 b=1")}, {row("a=1 b=1"), row("a=1 b=2", "a=2 b=1"), row("a=1 b=1")},
		{row("a=1"), row("a=2", "a=1"), row("a=1")}, {row("a=1"), row("a=1", "a=2"), row("a=1")},
	} {
		got, e := sol.Left(x[0], x[1])
		is(t, "P1602: Left", got, x[2])
		if e != api.OK {
			t.Errorf("P1602: %v", e)
		}
		lefts(t, turned(x[0]), turned(x[1]))
	}
}

func TestMinus(t *testing.T) {
	for _, x := range [][3][]api.Sol{
		{nil, nil, nil}, {nil, row(""), nil}, {nil, row("a=1"), nil}, {row("b=1", "a=1", "a=1"), nil, row("a=1", "a=1", "b=1")},
		{row(""), row(""), row("")}, {row("", "a=1"), row(""), row("", "a=1")}, {row("", "a=1"), row("a=1"), row("")}, {row(""), row("a=1", ""), row("")},
		{row("a=1", "a=2"), row("b=1"), row("a=1", "a=2")},         // nothing in common
		{row("a=1", "a=2"), row("b=1", "a=2"), row("a=1")},         // the second one takes one away
		{row("a=2", "a=1", "a=2"), row("a=2", "a=2"), row("a=1")},  // the same one more than once
		{row("a=2", "a=1", "a=2"), row("a=1"), row("a=2", "a=2")},  //
		{row("a=1 b=1"), row("a=1"), nil},                          // they meet, one has more
		{row("a=1"), row("a=1 b=1"), nil},                          //
		{row("a=1 b=1"), row("a=1 b=2"), row("a=1 b=1")},           // one in common, and they do not meet
		{row("a=1 b=1"), row("a=2 b=1"), row("a=1 b=1")},           //
		{row("a=1 b=1"), row("b=1 c=1"), nil},                      // one in common behind one that is not
		{row("a=1 b=1"), row("a=1 b=2", "c=1", "b=1 c=2"), nil},    // the last one
		{row("b=1", "c=1"), row("a=1 b=1", "a=1 c=2"), row("c=1")}, //
		{row("a=1 c=1", "b=1"), row("b=2", "c=1"), row("b=1")},     //
		{row("a=1 c=1", "b=1"), row("a=1 c=2", "b=1 d=1"), row("a=1 c=1")},
	} {
		is(t, fmt.Sprintf("P1602: Minus(%s, %s)", said(x[0]), said(x[1])), sol.Minus(x[0], x[1]), x[2])
		is(t, "P1602: Minus", sol.Minus(turned(x[0]), turned(x[1])), x[2])
	}
}

// TestRowTerms: terms that differ in one thing alone do not meet.
func TestRowTerms(t *testing.T) {
	var a, b []api.Sol
	for i, x := range terms() {
		a = append(a, api.Sol{{Name: "a", T: x}, {Name: "b", T: text("a")}})
		b = append(b, api.Sol{{Name: "a", T: x}, {Name: "c", T: terms()[len(terms())-1-i]}})
	}
	holds(t, a, b)
	for i := range b {
		holds(t, a, b[:i])
		holds(t, a[i:], b[i:i+1])
	}
}

// bound is how many solutions a row may have.
const bound = 2000

// TestBound: rows just at the bound, and one more.
func TestBound(t *testing.T) {
	for _, x := range [][2][]api.Sol{
		{count("a", bound), row("")}, {count("a", bound), row("b=1")}, {again("a=1", bound), row("a=1")}, {again("", bound), row("")},
		{count("a", 40), count("b", 50)}, {count("a", 1000), row("b=1", "b=2")}, {again("a=1", 40), again("a=1", 50)}, {count("a", bound), count("a", bound)},
		{count("a", 5000), count("a", bound)}, {append(count("a", bound), again("a=1", 500)...), append(again("a=2", 500), count("a", bound)...)},
	} {
		for _, l := range [][2][]api.Sol{x, {x[1], x[0]}} {
			got, e := sol.Join(l[0], l[1])
			if len(got) != bound || e != api.OK {
				t.Errorf("P1602: Join(%s, %s): %d %v", said(l[0]), said(l[1]), len(got), e)
			}
			if len(l[0])*len(l[1]) <= bound {
				joins(t, l[0], l[1])
			}
		}
	}
	for _, x := range [][2][]api.Sol{
		{count("a", bound+1), row("")}, {count("a", bound+1), row("b=1")}, {again("a=1", bound+1), row("a=1")}, {again("", bound+1), row("")},
		{count("a", 3), count("b", 667)}, {count("a", 87), count("b", 23)}, {count("a", bound+1), count("a", bound+1)}, {again("a=1", 3), again("a=1", 667)},
		{append(count("a", bound), row("a=1", "a=1")...), append(row("a=1"), count("a", bound)...)}, // the last two
		{append(row("a=1", "a=1"), count("a", bound)...), append(count("a", bound), row("a=1")...)}, // the first two
		{count("a", 3000), count("b", 3000)}, // far beyond
	} {
		many(t, x[0], x[1], sol.Join)
		many(t, x[1], x[0], sol.Join)
		many(t, x[0], x[1], sol.Left)
		many(t, x[1], x[0], sol.Left)
	}
}

// many tells a fault where there are not too many.
func many(t *testing.T, a, b []api.Sol, how func(a, b []api.Sol) ([]api.Sol, api.Errno)) {
	t.Helper()
	if got, e := how(a, b); len(got) != 0 || e != api.ErrMany {
		t.Errorf("P1602: %s, %s: %d %v, not ErrMany", said(a), said(b), len(got), e)
	}
}

// TestLeftBound: those that meet none count like the others, wherever they stand.
func TestLeftBound(t *testing.T) {
	alone := func(n int) []api.Sol { return again("a=9", n) }
	two := row("a=1 b=1", "a=1 b=2")
	for _, x := range []struct {
		a, b []api.Sol
		more bool // one more is too many
	}{
		{alone(bound), nil, true}, {alone(bound), two, true}, {count("a", bound), row("a=x"), true}, {count("a", bound), count("a", 1000), true},
		{append(alone(bound-2), of("a=1")), two, true}, {append(row("a=1"), alone(bound-2)...), two, true},
		{append(again("a=1", 999), alone(2)...), two, true}, {append(alone(2), again("a=1", 999)...), two, true},
		{append(append(again("a=1", 500), alone(1000)...), again("a=1", 0)...), two, true},
		{append(append(alone(1), again("a=1", 999)...), alone(1)...), two, true},
	} {
		got, e := sol.Left(x.a, x.b)
		if len(got) != bound || e != api.OK {
			t.Errorf("P1602: Left: %d %v", len(got), e)
		}
		lefts(t, x.a, x.b)
		for _, s := range row("a=9", "a=1") {
			many(t, append(slices.Clone(x.a), s), x.b, sol.Left)
			many(t, append([]api.Sol{s}, x.a...), x.b, sol.Left)
		}
	}
	many(t, alone(bound+1), nil, sol.Left)
	many(t, alone(bound+1), two, sol.Left)
	got, e := sol.Left(nil, alone(bound+1))
	if len(got) != 0 || e != api.OK {
		t.Errorf("P1602: Left of none: %d %v", len(got), e)
	}
}

// TestNoBound: how many there are to choose from does not count; and for Minus nothing does.
func TestNoBound(t *testing.T) {
	a, b := count("a", 3000), row("b=1", "a=00007", "a=02999")
	got, e := sol.Join(a, b[1:])
	if len(got) != 2 || e != api.OK {
		t.Errorf("P1602: %d %v", len(got), e)
	}
	got, e = sol.Join(count("a", 3000), turned(a)[:bound])
	if len(got) != bound || e != api.OK {
		t.Errorf("P1602: %d %v", len(got), e)
	}
	is(t, "P1602: Join", got, a[1000:])
	is(t, "P1602: Minus", sol.Minus(a, b[:1]), a)
	is(t, "P1602: Minus", sol.Minus(turned(a), nil), a)
	is(t, "P1602: Minus", sol.Minus(a, b), append(slices.Clone(a[:7]), a[8:2999]...))
	is(t, "P1602: Minus", sol.Minus(a, a), nil)
	is(t, "P1602: Minus", sol.Minus(again("a=1", 4000), row("a=2")), again("a=1", 4000))
}

// Example 1.
func TestExample(t *testing.T) {
	for _, l := range [][]api.Sol{nil, row(""), row("a=1"), row("a=1", "a=1 b=2", "a=2"), row("b=1", "a=1", "b=1")} {
		for _, x := range [][2][]api.Sol{{row(""), l}, {l, row("")}} {
			got, e := sol.Join(x[0], x[1])
			is(t, "example 1", got, sol.Sort(l))
			if e != api.OK {
				t.Errorf("example 1: %v", e)
			}
		}
	}
}

// TestEachRows: each two rows of at most two solutions of two variables and two terms.
func TestEachRows(t *testing.T) {
	one := all([]string{"a", "b"}, []api.Term{ref("q"), node("q")})
	rows := [][]api.Sol{nil}
	for i, x := range one {
		rows = append(rows, []api.Sol{x})
		for _, y := range one[i:] {
			rows = append(rows, []api.Sol{y, x})
		}
	}
	for _, a := range rows {
		for _, b := range rows {
			holds(t, a, b)
		}
	}
}

// TestThrown: rows of few variables and terms, that meet often, and of more.
func TestThrown(t *testing.T) {
	var d die = 7
	for range 1200 {
		holds(t, d.row(6, names[:3], terms()[:2], 2), d.row(6, names[:3], terms()[:2], 2))
		holds(t, d.row(12, names, terms()[:3], 3), d.row(12, names, terms()[:3], 3))
		holds(t, d.row(5, names[:2], terms(), 2), d.row(20, names[1:4], terms(), 2))
	}
	for range 30 {
		holds(t, d.row(150, names, terms()[:2], 3), d.row(60, names, terms()[:2], 3)) // some of them too many
	}
}

// P1603

// TestEither: Join either way about, of rows in any order, is the same, an error too.
func TestEither(t *testing.T) {
	var d die = 3
	var errors int
	for range 1000 {
		n := []int{3, 8, 90}[d.of(3)]
		a, b := d.row(n, names[:4], terms()[:3], 2), d.row(n, names[:4], terms()[:3], 2)
		want, e := sol.Join(a, b)
		if e != api.OK {
			errors++
		}
		for range 3 {
			a, b = d.shuffled(b), d.shuffled(a)
			got, f := sol.Join(a, b)
			is(t, "P1603: Join", got, want)
			if e != f {
				t.Errorf("P1603: %v, not %v", f, e)
			}
		}
	}
	if errors == 0 || errors > 300 {
		t.Errorf("the test's own words: %d errors", errors)
	}
}
