package sol_test

import (
	"slices"
	"strings"
	"testing"

	"triad/api"
	"triad/sol"
)

func some() api.Sol {
	return api.Sol{
		{Name: "A", T: typed("5", api.XInt)},
		{Name: "a", T: ref("x:y")},
		{Name: "a_b", T: node("q")},
		{Name: "ab1", T: spoken("", "en")},
	}
}

// none tells a fault where something is told beside a false (P4).
func none(t *testing.T, what string, got api.Sol, is bool) {
	t.Helper()
	if is || len(got) != 0 {
		t.Errorf("%s: %s %v, not none", what, one(got), is)
	}
}

// P1601

// TestGet: each of a solution's variables, and names that are nearly one of them.
func TestGet(t *testing.T) {
	for _, p := range some() {
		if got, is := sol.Get(some(), p.Name); !is || got != p.T {
			t.Errorf("P1601: %s: %v %v", p.Name, got, is)
		}
	}
	for _, name := range []string{"", "B", "b", "a_", "a_bc", "ab", "ab12", "A\x00", "?a", "_"} {
		if got, is := sol.Get(some(), name); is || got != (api.Term{}) {
			t.Errorf("P1601: %s: %v %v", name, got, is)
		}
	}
	for _, s := range []api.Sol{nil, {}} {
		if got, is := sol.Get(s, "a"); is || got != (api.Term{}) {
			t.Errorf("P1601: of none: %v %v", got, is)
		}
	}
}

// puts tells a fault where Set does not answer that.
func puts(t *testing.T, s api.Sol, name string, x api.Term, want api.Sol) {
	t.Helper()
	got, is := sol.Set(s, name, x)
	if !is || !slices.Equal(got, want) {
		t.Errorf("P1601: Set(%s, %s, %s): %s %v, not %s", one(s), name, termOf(x), one(got), is, one(want))
	}
}

// refuses tells a fault where Set does not refuse.
func refuses(t *testing.T, s api.Sol, name string, x api.Term) {
	t.Helper()
	got, is := sol.Set(s, name, x)
	none(t, "P1601: Set("+one(s)+", "+name+", "+termOf(x)+")", got, is)
}

func TestSet(t *testing.T) {
	for _, l := range [][3]string{
		{"", "a=1", "a=1"}, {"b=2", "a=1", "a=1 b=2"}, {"b=2", "c=3", "b=2 c=3"}, {"b=2", "b=2", "b=2"},
		{"b=2 d=4 f=6", "a=1", "a=1 b=2 d=4 f=6"}, {"b=2 d=4 f=6", "c=3", "b=2 c=3 d=4 f=6"}, {"b=2 d=4 f=6", "e=5", "b=2 d=4 e=5 f=6"}, {"b=2 d=4 f=6", "g=7", "b=2 d=4 f=6 g=7"},
		{"b=2 d=4 f=6", "b=2", "b=2 d=4 f=6"}, {"b=2 d=4 f=6", "d=4", "b=2 d=4 f=6"}, {"b=2 d=4 f=6", "f=6", "b=2 d=4 f=6"},
		{"a=1 aa=2", "A=0", "A=0 a=1 aa=2"}, {"a=1 aa=2", "a0=0", "a=1 a0=0 aa=2"}, {"a=1 aa=2", "aaa=3", "a=1 aa=2 aaa=3"}, {"aa=2", "a=1", "a=1 aa=2"}, {"a=1", "a_=2", "a=1 a_=2"},
		{"Z=1", "a=2", "Z=1 a=2"}, {"a=2", "Z=1", "Z=1 a=2"}, {"a1=1 a2=2", "a10=3", "a1=1 a10=3 a2=2"}, {"a=1", "b=1", "a=1 b=1"},
	} {
		p := of(l[1])[0]
		puts(t, of(l[0]), p.Name, p.T, of(l[2]))
	}
	for _, l := range [][2]string{{"a=1", "a=2"}, {"b=2 d=4 f=6", "b=4"}, {"b=2 d=4 f=6", "d=2"}, {"b=2 d=4 f=6", "f=66"}} {
		p := of(l[1])[0]
		refuses(t, of(l[0]), p.Name, p.T)
	}
	puts(t, nil, "a", text(""), api.Sol{{Name: "a", T: text("")}})
}

// TestSetTerms: each two terms, that differ in one thing alone too: their kind, text, language, type.
func TestSetTerms(t *testing.T) {
	for i, x := range terms() {
		for k, y := range terms() {
			for _, s := range []api.Sol{{{Name: "b", T: x}}, {{Name: "a", T: y}, {Name: "b", T: x}, {Name: "c", T: y}}} {
				if i == k {
					puts(t, s, "b", y, s)
				} else {
					refuses(t, s, "b", y)
				}
			}
			puts(t, api.Sol{{Name: "b", T: x}}, "c", y, api.Sol{{Name: "b", T: x}, {Name: "c", T: y}})
		}
	}
}

// TestEachSet: each variable into each solution of others.
func TestEachSet(t *testing.T) {
	for have := range 1 << len(names) {
		m := map[string]api.Term{}
		for i, name := range names {
			if have>>i&1 == 1 {
				m[name] = ref(name)
			}
		}
		s := inOrder(m)
		for _, name := range names {
			_, has := m[name]
			m[name] = ref(name)
			puts(t, s, name, ref(name), inOrder(m))
			if got, is := sol.Get(s, name); is != has || is && got != ref(name) {
				t.Errorf("P1601: Get(%s, %s): %v %v", one(s), name, got, is)
			}
			if has {
				refuses(t, s, name, node("q"))
			} else {
				delete(m, name)
			}
		}
	}
}

// meets tells a fault where Meet, either way about, does not answer what the chapter's words do; and what it answered.
func meets(t *testing.T, a, b api.Sol) (api.Sol, bool) {
	t.Helper()
	want, _, is := meet(a, b)
	for _, l := range [][2]api.Sol{{a, b}, {b, a}} {
		if got, met := sol.Meet(l[0], l[1]); met != is || !slices.Equal(got, want) {
			t.Errorf("P1601: Meet(%s, %s): %s %v, not %s %v", one(l[0]), one(l[1]), one(got), met, one(want), is)
		}
	}
	return want, is
}

func TestMeet(t *testing.T) {
	for _, l := range [][3]string{
		{"", "", ""}, {"a=1", "", "a=1"}, {"a=1 b=2 c=3", "", "a=1 b=2 c=3"},
		{"a=1", "b=2", "a=1 b=2"}, {"a=1 c=3", "b=2 d=4", "a=1 b=2 c=3 d=4"}, {"a=1 b=2", "c=3 d=4", "a=1 b=2 c=3 d=4"}, {"a=1 d=4", "b=2 c=3", "a=1 b=2 c=3 d=4"},
		{"a=1", "a=1", "a=1"}, {"a=1 b=2", "a=1 b=2", "a=1 b=2"}, {"a=1 b=2", "a=1", "a=1 b=2"}, {"a=1 b=2", "b=2", "a=1 b=2"},
		{"a=1 b=2", "b=2 c=3", "a=1 b=2 c=3"}, {"a=1 c=3", "b=2 c=3", "a=1 b=2 c=3"}, {"a=1 b=1", "b=1 c=1", "a=1 b=1 c=1"},
		{"A=1 a=1", "Z=1 aa=1", "A=1 Z=1 a=1 aa=1"}, {"a=1", "aa=2", "a=1 aa=2"},
	} {
		if got, is := meets(t, of(l[0]), of(l[1])); !is || !slices.Equal(got, of(l[2])) {
			t.Errorf("the test's own words: %v: %s", l, one(got))
		}
	}
	for _, l := range [][2]string{
		{"a=1", "a=2"}, {"a=1 b=2", "a=2 b=2"}, {"a=1 b=2", "a=1 b=3"}, {"a=1 b=2", "b=3"}, {"a=1 b=2", "a=2 c=3"}, {"a=1 b=2 c=3", "a=1 b=2 c=4"}, {"a=1 b=2 c=3", "a=1 b=4 c=3"},
		{"b=1 d=1", "a=1 b=1 c=1 d=2 e=1"}, {"a=1", "a=11"},
	} {
		if _, is := meets(t, of(l[0]), of(l[1])); is {
			t.Errorf("the test's own words: %v", l)
		}
	}
	meets(t, nil, nil)
	meets(t, nil, api.Sol{})
}

// TestEachMeet: each two solutions of three variables and two terms, and each two terms of one variable.
func TestEachMeet(t *testing.T) {
	l := all([]string{"a", "aa", "b"}, []api.Term{ref("q"), node("q")})
	for _, a := range l {
		for _, b := range l {
			meets(t, a, b)
		}
	}
	for _, x := range terms() {
		for _, y := range terms() {
			meets(t, api.Sol{{Name: "a", T: x}, {Name: "c", T: x}}, api.Sol{{Name: "b", T: y}, {Name: "c", T: y}})
		}
	}
}

// all are the solutions that have each of some variables or not, with each of some terms.
func all(some []string, l []api.Term) []api.Sol {
	out := []api.Sol{nil}
	for _, name := range some {
		for _, s := range slices.Clone(out) {
			for _, x := range l {
				out = append(out, append(slices.Clone(s), api.Pair{Name: name, T: x}))
			}
		}
	}
	return out
}

func TestText(t *testing.T) {
	for _, x := range []struct {
		s    api.Sol
		want string
	}{
		{nil, ""}, {api.Sol{}, ""},
		{of("a=x:y"), "?a <x:y> "},
		{of("A=1 a=2 ab_9=3"), "?A <1> ?a <2> ?ab_9 <3> "},
		{some(), `?A "5"^^<http://www.w3.org/2001/XMLSchema#integer> ?a <x:y> ?a_b _:q ?ab1 ""@en `},
		{api.Sol{{Name: "a", T: text("a \"b\" \\ \t\n\r\x00")}}, `?a "a \"b\" \\ \t\n\r` + "\x00\" "},
		{api.Sol{{Name: "a", T: spoken("x", "en-us")}, {Name: "b", T: typed("x", "y")}}, `?a "x"@en-us ?b "x"^^<y> `},
		{api.Sol{{Name: "a", T: text("é\xff")}, {Name: "b", T: node("b1_")}}, "?a \"é\xff\" ?b _:b1_ "},
		{api.Sol{{Name: "a", T: text(" ?b <c> ")}}, `?a " ?b <c> " `},
	} {
		if got := sol.Text(x.s); got != x.want || got != textOf(x.s) {
			t.Errorf("P1601: %q, not %q", got, x.want)
		}
	}
	for _, x := range terms() {
		for _, y := range terms() {
			s := api.Sol{{Name: "a", T: x}, {Name: "b", T: y}}
			if got := sol.Text(s); got != textOf(s) {
				t.Errorf("P1601: %q, not %q", got, textOf(s))
			}
		}
	}
}

// TestTextsDiffer: two solutions with one text are the same.
func TestTextsDiffer(t *testing.T) {
	at := map[string]api.Sol{}
	for _, s := range all([]string{"a", "b"}, append(terms(), text("q\" ?b <q"), text("q> ?b"), text("<q> "), spoken("q", "en-b"))) {
		if x, is := at[sol.Text(s)]; is {
			t.Errorf("P1601: %s and %s", one(x), one(s))
		}
		at[sol.Text(s)] = s
	}
}

// TestLongSolutions: many variables, and long texts.
func TestLongSolutions(t *testing.T) {
	var a, b api.Sol
	for i := range 20000 {
		p := api.Pair{Name: "v" + string([]byte{'a' + byte(i/676/26%26), 'a' + byte(i/676%26), 'a' + byte(i/26%26), 'a' + byte(i%26)}), T: text(strings.Repeat("x", i%70))}
		if i%3 != 0 {
			a = append(a, p)
		}
		if i%3 != 1 {
			b = append(b, p)
		}
	}
	got, is := meets(t, a, b)
	if !is || len(got) != 20000 {
		t.Errorf("P1601: %d %v", len(got), is)
	}
	meets(t, a, nil)
	if got := sol.Text(a); got != bigText(a) {
		t.Errorf("P1601: a text of %d", len(got))
	}
	other := slices.Clone(b)
	other[len(b)-1].T = node("q")
	meets(t, b, other)
	puts(t, a, "w", node("q"), append(slices.Clone(a), api.Pair{Name: "w", T: node("q")}))
}

// bigText is textOf of many.
func bigText(s api.Sol) string {
	var b strings.Builder
	for i := range s {
		b.WriteString(textOf(s[i : i+1]))
	}
	return b.String()
}
