package parse_test

import (
	"fmt"
	"reflect"
	"slices"
	"strconv"
	"strings"
	"sync"
	"testing"
	"unsafe"

	"triad/api"
	"triad/parse"
)

// P1401: Names

// named tells a fault where the Names of a pattern are others.
func named(t *testing.T, p api.Pattern, want ...string) {
	t.Helper()
	if got := parse.Names(p); !slices.Equal(got, want) {
		fault(t, "P1401: %s: %q, not %q", tell(p), got, want)
	}
}

// step has these variables; "" is a term that is none.
func step(s, p, o string) api.Step {
	of := func(name string) api.Term {
		if name == "" {
			return ref("a")
		}
		return vari(name)
	}
	return api.Step{S: of(s), P: of(p), O: of(o)}
}

func steps(l ...api.Step) api.Pattern { return api.Pattern{Op: api.GSteps, Steps: l} }

func kids(op int, l ...api.Pattern) api.Pattern { return api.Pattern{Op: op, Kids: l} }

func TestNames(t *testing.T) {
	a, b, c := steps(step("a", "", "")), steps(step("", "b", "")), steps(step("", "", "c"))
	named(t, api.Pattern{})
	named(t, steps())
	named(t, steps(step("", "", "")))
	named(t, a, "a")
	named(t, b, "b")
	named(t, c, "c")
	named(t, steps(step("z", "y", "x"), step("y", "", "w")), "w", "x", "y", "z")
	named(t, steps(step("a", "a", "a"), step("a", "a", "a")), "a")
	named(t, steps(step("b", "B", "a_"), step("a0", "aA", "aa"), step("a", "_", "Z9")), "B", "Z9", "_", "a", "a0", "aA", "a_", "aa", "b") // by bytes
	named(t, steps(api.Step{S: vari("a"), O: vari("b"), Way: api.Path{Op: api.PIri, S: "c"}}), "a", "b")
	named(t, steps(api.Step{S: ref("a"), P: node("b"), O: lit("c")}, api.Step{}))
	for _, op := range []int{api.GJoin, api.GLeft, api.GUnion} {
		named(t, kids(op, c, b), "b", "c")
		named(t, kids(op, a, kids(op, c, b)), "a", "b", "c")
		named(t, kids(op, a, a), "a")
	}
	named(t, kids(api.GMinus, c, b), "c")
	named(t, kids(api.GMinus, kids(api.GJoin, c, a), kids(api.GJoin, b, b)), "a", "c")
	named(t, kids(api.GMinus, kids(api.GMinus, c, a), b), "c")
	named(t, kids(api.GJoin, kids(api.GMinus, a, b), c), "a", "c")
	named(t, kids(api.GJoin, c, kids(api.GMinus, a, b)), "a", "c")
	named(t, kids(api.GMinus, steps(), a))
	named(t, kids(api.GMinus, a, steps()), "a")
	x := api.Expr{Op: api.EBound, Kids: []api.Expr{{Op: api.ETerm, T: vari("x")}}}
	named(t, api.Pattern{Op: api.GFilter, Kids: []api.Pattern{a}, E: x}, "a")
	named(t, api.Pattern{Op: api.GFilter, Kids: []api.Pattern{a}, E: x.Kids[0]}, "a")
	named(t, api.Pattern{Op: api.GBind, Kids: []api.Pattern{a}, E: x, Name: "b"}, "a", "b")
	named(t, api.Pattern{Op: api.GBind, Kids: []api.Pattern{b}, E: x, Name: "a"}, "a", "b")
	named(t, api.Pattern{Op: api.GBind, Kids: []api.Pattern{b}, E: x, Name: "b"}, "b")
	named(t, api.Pattern{Op: api.GValues, Name: "a"}, "a")
	named(t, api.Pattern{Op: api.GValues, Name: "a", Terms: []api.Term{ref("b"), lit("c")}}, "a")
	for s, want := range map[string]string{
		"{ }": "", "{ ?b <c> ?a }": "a b", "{ ?b ?c ?a . ?b <d>* ?B }": "B a b c", "{ VALUES ?z { } BIND(?q AS ?y) FILTER(?r) }": "y z", "{ { ?a <b> 1 } UNION { ?c <b> 1 } OPTIONAL { ?d <b> 1 } MINUS { ?e <b> 1 . ?a <b> 1 } }": "a c d", "{ MINUS { ?a <b> ?c } }": "", "{ MINUS { ?a <b> ?c } ?c <b> 1 }": "c", "{ { MINUS { ?a <b> ?c } } MINUS { ?a <b> ?c } }": "", "{ OPTIONAL { VALUES ?a { } MINUS { ?b <c> 1 } } }": "a",
	} {
		q, e, _ := asked(t, "ASK "+s)
		if got := strings.Join(parse.Names(q.Where), " "); e != api.OK || got != want {
			fault(t, "P1401: Names of %s: %s %v, not %s", s, got, e, want)
		}
	}
}

// TestNamesOfNone (P1, P8): of what no pattern is; how deep, how wide.
func TestNamesOfNone(t *testing.T) {
	for _, op := range []int{-1 << 63, -1, 0, 1, 2, 3, 4, 5, 6, 7, 8, 9, 1 << 62} {
		p := api.Pattern{Op: op, Steps: []api.Step{step("a", "", "b")}, Kids: []api.Pattern{steps(step("c", "", "")), steps(step("d", "", "")), {}}, E: api.Expr{Op: op}, Name: "n", Terms: []api.Term{vari("t")}}
		for _, q := range []api.Pattern{p, {Op: op}, {Op: op, Name: "\xff"}, {Op: op, Kids: []api.Pattern{p}}, {Op: op, Kids: []api.Pattern{p, p, p}}, {Op: op, Steps: []api.Step{{S: vari("")}}}, {Op: op, Steps: []api.Step{{P: vari(x(1 << 20))}}}} {
			parse.Names(q)
		}
	}
	deep := steps(step("a", "", ""))
	for range 1 << 20 {
		deep = api.Pattern{Op: api.GFilter, Kids: []api.Pattern{deep}}
	}
	named(t, deep, "a")
	deep = steps(step("a", "", ""))
	for range 1 << 18 {
		deep = kids(api.GJoin, deep, api.Pattern{Op: api.GBind, Name: "b"})
	}
	named(t, deep, "a", "b")
	named(t, kids(api.GUnion, slices.Repeat([]api.Pattern{steps(step("b", "", "a"))}, 1<<18)...), "a", "b")
	var l []api.Step
	var want []string
	for i := range 1000 {
		l = append(l, step("v"+strconv.Itoa(1999-i), "", ""))
		want = append(want, "v"+strconv.Itoa(1000+i))
	}
	named(t, steps(l...), want...)
}

// P2

// lists tells a fault where two lists of an answer share room, and counts those that have any.
func lists(t *testing.T, s string, v reflect.Value, had map[uintptr]string, where string) {
	t.Helper()
	switch v.Kind() {
	case reflect.Slice:
		size := v.Type().Elem().Size()
		for i := range v.Cap() {
			at := v.Pointer() + uintptr(i)*size
			if other, there := had[at]; there {
				t.Fatalf("P2: %s: %s and %s share room", clip(s), other, where)
			}
			had[at] = where
		}
		for i := range v.Len() {
			lists(t, s, v.Index(i), had, where+"["+strconv.Itoa(i)+"]")
		}
	case reflect.Struct:
		for i := range v.NumField() {
			lists(t, s, v.Field(i), had, where+"."+v.Type().Field(i).Name)
		}
	}
}

func TestLists(t *testing.T) {
	for _, s := range append(samples(), "ASK { ?a <b>/<c>|^<d>* ?e, ?f, ?g; <b>/<c> ?h, ?i . ?a <b>* ?c, ?d }", "ASK { ?a (<b>|<c>)+ 1, 2 FILTER(1 = 2) FILTER(IF(1, 2, 3)) VALUES ?x { 1 2 3 } { } UNION { } }", "SELECT ?a ?b (COUNT(*) AS ?n) { } GROUP BY ?a ?b ?c ORDER BY ?a ?b", "CONSTRUCT { ?a <b> 1, 2 } { ?a <b>/<c> 1, 2 }", "DELETE { <a> <b> 1, 2 } INSERT { <a> <b> 1, 2 } WHERE { ?a ^<b> 1, 2 }", "INSERT DATA { <a> <b> 1, 2 }", "ASK { ?a "+row("a", "/", 90)+" "+row("1", ",", 90)+" }") {
		q, _ := parse.Query(s)
		lists(t, s, reflect.ValueOf(q), map[uintptr]string{}, "Query")
		lists(t, s, reflect.ValueOf(parse.Names(q.Where)), map[uintptr]string{}, "Names")
		u, _ := parse.Update(s)
		lists(t, s, reflect.ValueOf(u), map[uintptr]string{}, "Update")
	}
}

// spoil changes all that an answer has, its spare room too.
func spoil(v reflect.Value) {
	switch v.Kind() {
	case reflect.Slice:
		v = v.Slice(0, v.Cap())
		for i := range v.Len() {
			spoil(v.Index(i))
			v.Index(i).SetZero()
		}
	case reflect.Struct:
		for i := range v.NumField() {
			spoil(v.Field(i))
		}
	}
}

// TestOwnMemory: texts that were made of bytes that change later, and answers that are changed.
func TestOwnMemory(t *testing.T) {
	for _, s := range append(samples(), "PREFIX pre: <abcd> SELECT ?abcd (COUNT(?abcd) AS ?efgh) { ?abcd <efgh>/pre:abcd 'efgh'@abcd, 'efgh'^^pre:abcd, 12345, -12345 BIND(1 AS ?ijkl) VALUES ?mnop { <abcd> } } GROUP BY ?abcd ORDER BY ?efgh", "INSERT DATA { _:abcd <abcd> 'abcd' }") {
		b := []byte(s)
		view := unsafe.String(unsafe.SliceData(b), len(b))
		q, e := parse.Query(view)
		u, f := parse.Update(view)
		if string(b) != s {
			fault(t, "P2: %s is changed: %s", clip(s), clip(string(b)))
		}
		for i := range b {
			b[i] = '?'
		}
		want, e2, _ := query(s)
		other, f2, _ := update(s)
		if e != e2 || f != f2 || !same(q, want) || !same(u, other) {
			fault(t, "P2: %s is kept: %s, %s", clip(s), tell(q), tell(u))
		}
		spoil(reflect.ValueOf(&q).Elem())
		spoil(reflect.ValueOf(&u).Elem())
		holds(t, s)
	}
}

// TestNamesArgument: a pattern, and its spare room, stay as they are.
func TestNamesArgument(t *testing.T) {
	room := []api.Pattern{steps(step("c", "", "")), steps(step("a", "", "")), steps(step("spare", "", ""))}
	for _, op := range []int{api.GJoin, api.GMinus, api.GUnion, api.GFilter, api.GBind, api.GValues} {
		l := []api.Step{step("b", "", ""), step("spare", "", "")}
		p := api.Pattern{Op: op, Kids: room[:2], Steps: l[:1], Name: "n"}
		was := fmt.Sprintf("%+v %+v %+v", p, room, l)
		got := parse.Names(p)
		if now := fmt.Sprintf("%+v %+v %+v", p, room, l); now != was {
			fault(t, "P2: %s, not %s", now, was)
		}
		want := slices.Clone(got)
		clear(got[:cap(got)])
		if again := parse.Names(p); !slices.Equal(again, want) {
			fault(t, "P2: %q, not %q", again, want)
		}
	}
}

// TestSideBySide (P3, P7): the same calls answer the same, many at once too.
func TestSideBySide(t *testing.T) {
	var w sync.WaitGroup
	for range 8 {
		w.Go(func() {
			for range 50 {
				for _, s := range samples() {
					holds(t, s)
				}
			}
		})
	}
	w.Wait()
}

// TestAnyLong (P1, P1404): long texts that begin much, and end little.
func TestAnyLong(t *testing.T) {
	t.Parallel()
	for _, s := range []string{"{", "}", "{}", "{} ", "( ", ")", "1 ", "?a ", "<a>", "<a> <b> <c> ", "<a> <b> <c>.", ". ", ", ", "; ", ",1", ";a 1", "/a", "|a", "a/", "a|", "^", "^ ", "*", "+", "-", "- ", "!", "1+", "1-", "1*", "1=", "1||", "1&&", "+1", "-1", "*1", "||1", "&&1", "STR(", "IF(", "IF(1,", "COALESCE(", "BOUND(", "BOUND(?a", "OPTIONAL", "OPTIONAL ", "OPTIONAL{", "OPTIONAL{}", "MINUS{", "MINUS{}", "UNION{}", "UNION ", "{}UNION", "FILTER(", "FILTER(1)", "BIND(", "BIND(1 AS ?a)", "VALUES ", "VALUES ?a{", "VALUES ?a{}", "VALUES ?a{1}.", "PREFIX ", "PREFIX p:<q>", "SELECT ", "SELECT * {", "(COUNT(*)AS ?a)", "ASK ", "ASK{", "CONSTRUCT{", "INSERT ", "DELETE{", "CLEAR ", "GROUP BY ", "ORDER BY ", "ASC(?a)", "LIMIT 1 ", "OFFSET 1", "_:a ", "x:y", "'x'", "'", "@en", "^^", "true ", "#", "#\n", "\xff", "é", "\x00", "9", "a", "?a?"} {
		for _, front := range []string{"", "ASK", "ASK{", "ASK{?a ", "ASK{?a <b> ", "ASK{?a <b> 1", "ASK{?a (", "ASK{{}", "ASK{FILTER(", "ASK{FILTER(1", "ASK{FILTER(COALESCE(1", "ASK{VALUES ?a{", "SELECT ", "SELECT ?a", "SELECT * {", "SELECT * {} GROUP BY ?a", "SELECT * {} ORDER BY ?a ", "CONSTRUCT{", "CONSTRUCT{?a <b> 1", "INSERT DATA{", "INSERT DATA{<a> <b> 1", "DELETE{?a ", "DELETE{} ", "INSERT{}WHERE{", "PREFIX p:"} {
			holds(t, front+strings.Repeat(s, (longest-len(front))/len(s)))
			holds(t, front+strings.Repeat(s, longest))
		}
	}
}
