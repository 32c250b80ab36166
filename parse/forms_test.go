package parse_test

import (
	"strconv"
	"strings"
	"testing"

	"triad/api"
)

var nothing = api.Pattern{Op: api.GSteps}

// P1402: ErrDeep

// nest has so many brackets around it.
func nest(open, within, shut string, n int) string {
	return strings.Repeat(open, n) + within + strings.Repeat(shut, n)
}

// depths tells faults where something, with brackets of its own so deep, may not have as many around it as want, or may have more.
func depths(t *testing.T, front, open, within, shut, tail string, own, want int) {
	t.Helper()
	bad(t, front+nest(open, within, shut, want-own)+tail, api.OK)
	bad(t, front+nest(open, within, shut, want-own+1)+tail, api.ErrDeep)
	bad(t, front+strings.Repeat(open, want), api.ErrWord)
	bad(t, front+strings.Repeat(open, want+1), api.ErrDeep) // as soon as they stand so
	for _, y := range []string{"x:y", "=", "<>", "'" + x(61) + "'", "_:b", "?" + x(13)} {
		refuses(t, "ASK "+front+strings.Repeat(open, want+1)+y, api.ErrDeep)
		rejects(t, "INSERT { } WHERE "+front+strings.Repeat(open, want+1)+y, api.ErrDeep)
	}
}

func TestDeep(t *testing.T) {
	depths(t, "", "{", "", "}", "", 0, 10)
	depths(t, "{", "{", "", "}", "}", 0, 9)
	depths(t, "{ ?a <b> ?c ", "{", " ?d <e> 1 ", "}", ". ?d <e> ?f }", 0, 9)
	depths(t, "{ { } { { } } ", "{ { } ", "", "}", "}", 0, 8)
	depths(t, "{", "OPTIONAL {", "", "}", "}", 0, 9)
	depths(t, "{", "MINUS {", "", "}", "}", 0, 9)
	depths(t, "{", "{ } UNION {", "", "}", "}", 0, 9)
	depths(t, "{", "{ } OPTIONAL {", "{ }", "}", "}", 1, 9)
	for front, tail := range map[string]string{"{ ?a ": " ?b }", "{ ?a <b> 1 ; ": " 2 }", "{ ?a ^": "* 1 }", "{ ?a <b>/": "/a 1 }", "{ ?a <b>|^": "+|a 1, 2 }", "{ ?c <d> 3 . ?a ": " ?b . }"} {
		depths(t, front, "(", "<c>", ")", tail, 0, 9)
		depths(t, front, "(a/", "<c>", ")", tail, 0, 9)
		depths(t, front, "(^", "<c>", ")", tail, 0, 9)
		depths(t, front, "(<d>|(a)/", "<c>?", ")", tail, 0, 8)
		depths(t, front+"(<b>)/", "(", "(a)", ")", tail, 1, 9)
	}
	for front, tail := range map[string]string{"{ FILTER(": ") }", "{ FILTER(!": ") }", "{ FILTER(1 + ": ") }", "{ FILTER(?a = ": " || ?b) }", "{ FILTER((1) + STR(2) * -": ") }", "{ BIND(": " AS ?z) }", "{ FILTER(1) FILTER(": ") }", "{ BIND(1 AS ?a) BIND(": " AS ?z) }"} {
		depths(t, front, "(", "1", ")", tail, 0, 9)
		depths(t, front, "(-", "?a", ")", tail, 0, 9)
		depths(t, front, "(1 + ", "2", ")", tail, 0, 9)
		for _, call := range []string{"STR(", "LANG(", "DATATYPE(", "STRLEN(", "ISIRI(", "ISBLANK(", "ISLITERAL(", "COALESCE(", "COALESCE(1, ", "1 * STR(", "1 - !str("} {
			depths(t, front, call, "1", ")", tail, 0, 9)
			depths(t, front, call, "(1)", ")", tail, 1, 9)
			depths(t, front, call, "BOUND(?a)", ")", tail, 1, 9)
		}
		depths(t, front, "CONTAINS(", "1", ", 2)", tail, 0, 9)
		depths(t, front, "SAMETERM(1, ", "2", ")", tail, 0, 9)
		depths(t, front, "IF(1, 2, ", "3", ")", tail, 0, 9)
		depths(t, front, "IF((1), ", "2", ", 3)", tail, 0, 8)
		depths(t, front, "(", "BOUND(?a)", ")", tail, 1, 9)
		bad(t, front+strings.Repeat("(", 9)+"BOUND(", api.ErrDeep)
		bad(t, front+strings.Repeat("(", 9)+"BOUND", api.ErrWord)
		bad(t, front+strings.Repeat("(", 9)+"BOUND (5", api.ErrDeep)
	}
}

// TestDeepMixed: brackets of all kinds together, and such as do not count.
func TestDeepMixed(t *testing.T) {
	for groups := 1; groups < 12; groups++ {
		for brackets := range 12 {
			want := api.OK
			if groups+brackets > 10 {
				want = api.ErrDeep
			}
			for _, within := range []string{"FILTER(" + nest("(", "1", ")", brackets) + ")", "BIND(" + nest("STR(", "1", ")", brackets) + " AS ?a)", "?a " + nest("(", "<b>", ")", brackets) + " 1", "?a <b>/" + nest("(", "<b>", ")*", brackets) + " 1 . ", "VALUES ?a { 1 } FILTER(1 + " + nest("COALESCE(1, ", "2", ")", brackets) + ")"} {
				bad(t, nest("{", within, "}", groups), want)
				bad(t, "{"+nest("OPTIONAL {", within, "}", groups-1)+"}", want)
				bad(t, "{ { { } } FILTER(((1)) + (2)) ?x (<y>/((<z>))) ?z ."+nest("{", within, "}", groups-1)+"}", want) // what stands beside it is shut
			}
		}
	}
	ten := nest("{", "?a <b> 1 . FILTER(?a) BIND(1 AS ?c) VALUES ?d { 1 }", "}", 10)
	bad(t, ten, api.OK)
	bad(t, ten[:len(ten)-10]+" FILTER(1 + (", api.ErrDeep)
	bad(t, ten[:len(ten)-10]+" FILTER(BOUND(", api.ErrDeep)
	bad(t, ten[:len(ten)-10]+" ?a (", api.ErrDeep)
	bad(t, ten[:len(ten)-10]+" {", api.ErrDeep)
	bad(t, ten[:len(ten)-10]+" OPTIONAL {", api.ErrDeep)
	bad(t, ten[:len(ten)-10]+" OPTIONAL (", api.ErrWord)
	bad(t, ten[:len(ten)-10]+" FILTER {", api.ErrWord)
	bad(t, ten[:len(ten)-10]+" (", api.ErrWord)
	bad(t, ten[:len(ten)-10]+" VALUES ?z { {", api.ErrWord)
	refuses(t, "SELECT (COUNT(*) AS ?n) "+nest("{", "", "}", 10), api.OK)
	refuses(t, "SELECT ?a "+nest("{", "", "}", 10)+" ORDER BY ASC(?a) DESC(?b)", api.OK)
	refuses(t, "CONSTRUCT { ?a "+nest("(", "<b>", ")", 10)+" 1 } "+nest("{", "", "}", 10), api.OK) // its own brackets do not count
	refuses(t, "CONSTRUCT { ?a "+nest("(", "<b>", ")", 11)+" 1 } { }", api.ErrDeep)
	refuses(t, "CONSTRUCT { ?a "+strings.Repeat("(", 11), api.ErrDeep)
	refuses(t, "CONSTRUCT { ?a "+strings.Repeat("(", 10), api.ErrWord)
	rejects(t, "INSERT DATA { <a> "+nest("(", "<b>", ")", 10)+" 1 }", api.OK)
	rejects(t, "INSERT DATA { <a> "+nest("(", "<b>", ")", 11)+" 1 }", api.ErrDeep)
	rejects(t, "DELETE DATA { <a> "+nest("(^", "<b>", ")", 10)+" 1 }", api.ErrMiss)
	rejects(t, "DELETE DATA { <a> "+nest("(^", "<b>", ")", 11)+" 1 }", api.ErrDeep)
	rejects(t, "DELETE { <a> "+nest("(", "<b>", ")", 10)+" 1 } INSERT { <a> "+nest("(", "a", ")", 10)+" 1 } WHERE "+nest("{", "", "}", 10), api.OK)
	rejects(t, "DELETE { } INSERT { <a> "+nest("(", "<b>", ")", 11)+" 1 } WHERE { }", api.ErrDeep)
	rejects(t, "DELETE { } INSERT { } WHERE "+nest("{", "", "}", 11), api.ErrDeep)
}

// P1402, P1403: ErrMany

// list is the steps of so many variables from one on.
func list(from, n int) string {
	s := ""
	for i := range n {
		s += "?v" + strconv.Itoa(from+i) + " <p> 1 . "
	}
	return s
}

func TestMany(t *testing.T) {
	for s, want := range map[string]api.Errno{
		"{ " + list(1, 12) + " }": api.OK, "{ " + list(1, 13) + " }": api.ErrMany, "{ " + list(1, 12) + list(1, 12) + " }": api.OK, "{ " + list(1, 12) + " FILTER(?x = ?y) }": api.OK, "{ FILTER(BOUND(?x)) " + list(1, 12) + " }": api.OK, "{ " + list(1, 11) + " BIND(?x AS ?y) }": api.OK, "{ " + list(1, 12) + " BIND(1 AS ?y) }": api.ErrMany, "{ " + list(1, 11) + " VALUES ?y { } }": api.OK, "{ " + list(1, 12) + " VALUES ?y { } }": api.ErrMany, "{ " + list(1, 12) + " VALUES ?v1 { } }": api.OK,
		"{ " + list(1, 6) + " { " + list(7, 6) + " } }": api.OK, "{ " + list(1, 6) + " { " + list(7, 7) + " } }": api.ErrMany, "{ " + list(1, 6) + " OPTIONAL { " + list(7, 6) + " } }": api.OK, "{ " + list(1, 6) + " OPTIONAL { " + list(7, 7) + " } }": api.ErrMany, "{ { " + list(1, 6) + " } UNION { " + list(7, 6) + " } }": api.OK, "{ { " + list(1, 6) + " } UNION { " + list(7, 7) + " } }": api.ErrMany, "{ { " + list(1, 12) + " } UNION { " + list(1, 12) + " } }": api.OK,
		"{ " + list(1, 12) + " MINUS { " + list(1, 20) + " } }": api.OK, "{ MINUS { " + list(1, 20) + " } }": api.OK, "{ " + list(1, 13) + " MINUS { } }": api.ErrMany, "{ MINUS { " + list(1, 20) + " } " + list(1, 12) + " }": api.OK, "{ MINUS { " + list(1, 20) + " } " + list(1, 13) + " }": api.ErrMany,
		"{ ?a ?b ?c . ?d ?e ?f . ?g ?h ?i . ?j ?k ?l }": api.OK, "{ ?a ?b ?c . ?d ?e ?f . ?g ?h ?i . ?j ?k ?l . <m> <m> ?m }": api.ErrMany, "{ ?a ?b ?c . ?d ?e ?f . ?g ?h ?i . ?j ?k ?l . <m> ?m <m> }": api.ErrMany, "{ ?a ?b ?c . ?d ?e ?f . ?g ?h ?i . ?j ?k ?l . ?m <m> <m> }": api.ErrMany, "{ ?a <b>/<c> ?d . " + list(1, 10) + " }": api.OK, "{ ?a <b>/<c> ?d . " + list(1, 11) + " }": api.ErrMany, "{ " + list(1, 200) + " }": api.ErrMany,
	} {
		bad(t, s, want)
	}
	twelve, more := "{ "+list(1, 12)+" }", "{ "+list(1, 13)+" }"
	for s, want := range map[string]api.Errno{ // of what is told, only what is built counts
		"SELECT ?a ?b ?c ?d ?e ?f ?g ?h ?i ?j ?k ?l ?m { }": api.OK, "SELECT ?x ?y " + twelve: api.OK, "SELECT (COUNT(?x) AS ?y) " + twelve: api.OK, "SELECT ?x " + twelve + " GROUP BY ?x ?y ORDER BY ?z": api.OK, "SELECT ?v1 " + more: api.ErrMany, "SELECT (COUNT(*) AS ?n) " + more: api.ErrMany,
		"SELECT ?a ?a " + more: api.ErrMany, "SELECT ?a ?a " + twelve: api.ErrScope, "SELECT * " + more + " GROUP BY ?v1": api.ErrMany, "SELECT (COUNT(*) AS ?v1) " + more: api.ErrMany, "SELECT * " + more + " x": api.ErrWord, "SELECT * " + more + " LIMIT 1.5": api.ErrOver, "SELECT * " + more + " GROUP BY ?" + x(13): api.ErrLong,
		"CONSTRUCT { " + list(1, 12) + " } { }": api.OK, "CONSTRUCT { " + list(1, 13) + " } { }": api.ErrMany, "CONSTRUCT { " + list(1, 6) + " } { " + list(7, 6) + " }": api.OK, "CONSTRUCT { " + list(1, 6) + " } { " + list(7, 7) + " }": api.ErrMany, "CONSTRUCT { " + list(1, 7) + " } { " + list(7, 6) + " }": api.OK, "CONSTRUCT { " + list(1, 12) + " } { " + list(1, 12) + " }": api.OK, "CONSTRUCT { " + list(1, 12) + " _:x <p> _:y } { }": api.OK, "CONSTRUCT { <a> ?x ?y } { " + list(1, 10) + " }": api.OK, "CONSTRUCT { <a> ?x ?y } { " + list(1, 11) + " }": api.ErrMany, "CONSTRUCT { " + list(1, 13) + " } { } x": api.ErrWord, "CONSTRUCT { ?x <p> 1 } { MINUS { " + list(1, 20) + " } " + list(1, 11) + " }": api.OK,
	} {
		refuses(t, s, want)
	}
	for s, want := range map[string]api.Errno{
		"INSERT { " + list(1, 12) + " } WHERE { }": api.OK, "INSERT { " + list(1, 13) + " } WHERE { }": api.ErrMany, "DELETE { " + list(1, 12) + " } WHERE { }": api.OK, "DELETE { " + list(1, 13) + " } WHERE { }": api.ErrMany, "DELETE { " + list(1, 4) + " } INSERT { " + list(5, 4) + " } WHERE { " + list(9, 4) + " }": api.OK, "DELETE { " + list(1, 4) + " } INSERT { " + list(5, 4) + " } WHERE { " + list(9, 5) + " }": api.ErrMany, "DELETE { " + list(1, 4) + " } INSERT { " + list(5, 5) + " } WHERE { " + list(10, 4) + " }": api.ErrMany, "DELETE { " + list(1, 5) + " } INSERT { " + list(6, 4) + " } WHERE { " + list(10, 4) + " }": api.ErrMany, "DELETE { " + list(1, 12) + " } INSERT { " + list(1, 12) + " } WHERE { " + list(1, 12) + " }": api.OK, "INSERT { _:x <p> _:y . " + list(1, 12) + " } WHERE { }": api.OK, "INSERT { " + list(1, 13) + " } WHERE { } x": api.ErrWord, "DELETE { " + list(1, 13) + " } x": api.ErrWord, "DELETE { ?x <p> 1 } WHERE { MINUS { " + list(1, 20) + " } }": api.OK,
	} {
		rejects(t, s, want)
	}
}

// P1402: SELECT

func TestSelect(t *testing.T) {
	plain := api.Query{Form: api.QSelect, Where: nothing, Limit: -1}
	of := func(change func(q *api.Query)) api.Query {
		q := plain
		change(&q)
		return q
	}
	for _, s := range []string{"SELECT * { }", "SELECT * WHERE { }", "SELECT*{}", "SELECT * WHERE{}"} {
		asks(t, s, plain)
	}
	asks(t, "SELECT DISTINCT * { }", of(func(q *api.Query) { q.Distinct = true }))
	asks(t, "SELECT ?a { }", of(func(q *api.Query) { q.Names = []string{"a"} }))
	asks(t, "SELECT ?b ?a $c WHERE { }", of(func(q *api.Query) { q.Names = []string{"b", "a", "c"} }))
	asks(t, "SELECT DISTINCT ?b?a { }", of(func(q *api.Query) { q.Names, q.Distinct = []string{"b", "a"}, true }))
	asks(t, "SELECT ?a ?A { ?a <b> ?c }", of(func(q *api.Query) { q.Names, q.Where = []string{"a", "A"}, steps(step2("a", "b", "c")) }))
	for s, want := range map[string]int{"0": 0, "1": 1, "007": 7, "000000": 0, "000001": 1, "999999": 999999, "123456": 123456} {
		asks(t, "SELECT * { } LIMIT "+s, of(func(q *api.Query) { q.Limit = want }))
		asks(t, "SELECT * { } OFFSET "+s, of(func(q *api.Query) { q.Offset = want }))
		asks(t, "SELECT * { } LIMIT "+s+" OFFSET 5", of(func(q *api.Query) { q.Limit, q.Offset = want, 5 }))
		asks(t, "SELECT * { } LIMIT 5 OFFSET "+s, of(func(q *api.Query) { q.Limit, q.Offset = 5, want }))
	}
	asks(t, "SELECT ?a { } GROUP BY ?a", of(func(q *api.Query) { q.Names, q.Group = []string{"a"}, []string{"a"} }))
	asks(t, "SELECT ?a { } GROUP BY ?c ?a ?b", of(func(q *api.Query) { q.Names, q.Group = []string{"a"}, []string{"c", "a", "b"} }))
	for s, want := range map[string][]api.Key{"?a": {{Name: "a"}}, "?b ?a": {{Name: "b"}, {Name: "a"}}, "ASC(?a)": {{Name: "a"}}, "DESC(?a)": {{Name: "a", Down: true}}, "desc ( ?b ) ?a Asc($c) ?a ?a DESC(?a)": {{Name: "b", Down: true}, {Name: "a"}, {Name: "c"}, {Name: "a"}, {Name: "a"}, {Name: "a", Down: true}}} {
		asks(t, "SELECT * { } ORDER BY "+s, of(func(q *api.Query) { q.Order = want }))
		asks(t, "SELECT ?x { } ORDER BY "+s+" LIMIT 5", of(func(q *api.Query) { q.Names, q.Order, q.Limit = []string{"x"}, want, 5 }))
		asks(t, "SELECT ?x { } GROUP BY ?x order by "+s+" OFFSET 5", of(func(q *api.Query) { q.Names, q.Group, q.Order, q.Offset = []string{"x"}, []string{"x"}, want, 5 }))
	}
	asks(t, "PREFIX p: <q#> select distinct ?a (count(*) as ?n) ?b where { ?a p:c ?b } group by ?b ?a order by desc(?n) ?b limit 10 offset 20", api.Query{Form: api.QSelect, Names: []string{"a", "b"}, Distinct: true, Where: steps(step2("a", "q#c", "b")), Group: []string{"b", "a"}, Aggs: []api.Agg{{Op: api.ACount, Name: "n"}}, Order: []api.Key{{Name: "n", Down: true}, {Name: "b"}}, Limit: 10, Offset: 20})
}

// step2 has a variable, an IRI and a variable.
func step2(s, p, o string) api.Step { return api.Step{S: vari(s), P: ref(p), O: vari(o)} }

func TestNoSelect(t *testing.T) {
	for _, s := range []string{
		"SELECT", "SELECT *", "SELECT ?a", "SELECT { }", "SELECT WHERE { }", "SELECT DISTINCT { }", "SELECT DISTINCT DISTINCT * { }", "SELECT * DISTINCT { }", "SELECT ?a DISTINCT ?b { }", "SELECT * ?a { }", "SELECT ?a * { }", "SELECT * * { }", "SELECT ?a, ?b { }", "SELECT (?a) { }", "SELECT ?a AS ?b { }", "SELECT (?a AS ?b) { }", "SELECT (1 AS ?b) { }", "SELECT a { }", "SELECT <a> { }", "SELECT 'a' { }", "SELECT 5 { }", "SELECT ?a ?a", "SELECT () { }", "SELECT * WHERE", "SELECT * WHERE WHERE { }", "SELECT * WHERE ?a", "SELECT * ( )", "SELECT * FROM <a> { }", "SELECT * { } { }", "SELECT * { } .", "SELECT * { } WHERE", "SELECT * { } ?a", "SELECT * { } ;", "SELECT * { } SELECT * { }", "SELECT * { } ASK { }",
		"SELECT ?a { } GROUP", "SELECT ?a { } GROUP BY", "SELECT ?a { } GROUP ?a", "SELECT ?a { } BY ?a", "SELECT ?a { } GROUP BY (?a)", "SELECT ?a { } GROUP BY ?a, ?b", "SELECT ?a { } GROUP BY a", "SELECT ?a { } GROUP BY <a>", "SELECT ?a { } GROUP BY 1", "SELECT ?a { } GROUP BY *", "SELECT ?a { } GROUP BY BY ?a", "SELECT ?a { } GROUP BY ?a GROUP BY ?b", "SELECT ?a { } GROUP BY ?a HAVING (1)", "SELECT ?a GROUP BY ?a { }", "SELECT ?a { } GROUP BY ASC(?a)", "SELECT ?a { } GROUP BY LIMIT 5",
		"SELECT * { } ORDER", "SELECT * { } ORDER BY", "SELECT * { } ORDER ?a", "SELECT * { } ORDER BY (?a)", "SELECT * { } ORDER BY ?a, ?b", "SELECT * { } ORDER BY ASC", "SELECT * { } ORDER BY ASC ?a", "SELECT * { } ORDER BY ASC()", "SELECT * { } ORDER BY ASC(?a", "SELECT * { } ORDER BY ASC(?a ?b)", "SELECT * { } ORDER BY ASC(?a, ?b)", "SELECT * { } ORDER BY ASC(1)", "SELECT * { } ORDER BY ASC((?a))", "SELECT * { } ORDER BY ?a ASC", "SELECT * { } ORDER BY ?a DESC", "SELECT * { } ORDER BY DESC", "SELECT * { } ORDER BY DESC ?a", "SELECT * { } ORDER BY DESC()", "SELECT * { } ORDER BY DESC(?a", "SELECT * { } ORDER BY DESC(<a>)", "SELECT * { } ORDER BY 1", "SELECT * { } ORDER BY *", "SELECT * { } ORDER BY STR(?a)", "SELECT * { } ORDER BY ?a ORDER BY ?b", "SELECT ?a { } ORDER BY ?a GROUP BY ?a", "SELECT * { } ORDER BY LIMIT 5", "SELECT * ORDER BY ?a { }", "SELECT * { } ORDER BY DISTINCT ?a", "SELECT * { } ORDER BY ASC DESC(?a)",
		"SELECT * { } LIMIT", "SELECT * { } LIMIT ?a", "SELECT * { } LIMIT -1", "SELECT * { } LIMIT +1", "SELECT * { } LIMIT - 1", "SELECT * { } LIMIT '1'", "SELECT * { } LIMIT 1 2", "SELECT * { } LIMIT 1.", "SELECT * { } LIMIT .5", "SELECT * { } LIMIT 1, 2", "SELECT * { } LIMIT 1 LIMIT 2", "SELECT * { } LIMIT (1)", "SELECT * { } LIMIT *", "SELECT * { } LIMIT 1 ORDER BY ?a", "SELECT ?a { } LIMIT 1 GROUP BY ?a", "SELECT * { } LIMIT OFFSET 1", "SELECT * LIMIT 1 { }", "SELECT * { } LIMIT 1e5", "SELECT * { } LIMIT a",
		"SELECT * { } OFFSET", "SELECT * { } OFFSET ?a", "SELECT * { } OFFSET -1", "SELECT * { } OFFSET +1", "SELECT * { } OFFSET 1.", "SELECT * { } OFFSET 1 2", "SELECT * { } OFFSET 1 OFFSET 2", "SELECT * { } OFFSET 1 LIMIT 2", "SELECT * { } LIMIT 1 OFFSET 2 LIMIT 3", "SELECT * { } OFFSET 1 ORDER BY ?a", "SELECT ?a { } OFFSET 1 GROUP BY ?a",
	} {
		refuses(t, s, api.ErrWord)
	}
	for _, n := range []string{"1.5", "1.0", "0.0", "000000.0", "1000000", "0000001", "0000000", "1234567", "1234567.8", "12345.6", "99999999999999999999999999", strings.Repeat("0", 1000)} {
		for _, tail := range []string{"", " x", " OFFSET 1.5", " }", " x:y"} {
			refuses(t, "SELECT * { } LIMIT "+n+tail, api.ErrOver)
			refuses(t, "SELECT * { } OFFSET "+n+tail, api.ErrOver)
			refuses(t, "SELECT * { } LIMIT 5 OFFSET "+n+tail, api.ErrOver)
			refuses(t, "SELECT ?a ?a { } GROUP BY ?b ORDER BY ?c LIMIT "+n+tail, api.ErrOver) // ahead of the end
		}
		refuses(t, "SELECT * { } ORDER LIMIT "+n, api.ErrWord)
		refuses(t, "ASK { } LIMIT "+n, api.ErrWord)
	}
}

func TestAggregates(t *testing.T) {
	for w, op := range map[string]int{"COUNT": api.ACount, "SUM": api.ASum, "MIN": api.AMin, "MAX": api.AMax, "AVG": api.AAvg} {
		for _, w := range []string{w, strings.ToLower(w), w[:1] + strings.ToLower(w[1:])} {
			for s, want := range map[string]api.Agg{"(?a)": {Op: op, Arg: "a"}, "(DISTINCT ?a)": {Op: op, Arg: "a", Distinct: true}, " ( distinct $a ) ": {Op: op, Arg: "a", Distinct: true}} {
				want.Name = "n"
				asks(t, "SELECT ("+w+s+" AS ?n) { }", api.Query{Form: api.QSelect, Where: nothing, Aggs: []api.Agg{want}, Limit: -1})
				asks(t, "SELECT ?b("+w+s+"as $n)?c { } GROUP BY ?b ?c", api.Query{Form: api.QSelect, Names: []string{"b", "c"}, Where: nothing, Aggs: []api.Agg{want}, Group: []string{"b", "c"}, Limit: -1})
				asks(t, "SELECT DISTINCT (SUM(?x) AS ?y) ("+w+s+" AS ?n) (COUNT(*) AS ?z) { }", api.Query{Form: api.QSelect, Distinct: true, Where: nothing, Aggs: []api.Agg{{Op: api.ASum, Arg: "x", Name: "y"}, want, {Op: api.ACount, Name: "z"}}, Limit: -1})
			}
			for s, distinct := range map[string]bool{"(*)": false, "( * )": false, "(DISTINCT *)": true} {
				if op == api.ACount {
					asks(t, "SELECT ("+w+s+" AS ?n) { }", api.Query{Form: api.QSelect, Where: nothing, Aggs: []api.Agg{{Op: op, Name: "n", Distinct: distinct}}, Limit: -1})
				} else {
					refuses(t, "SELECT ("+w+s+" AS ?n) { }", api.ErrWord)
				}
			}
			for _, s := range []string{"", "()", "(DISTINCT)", "(a)", "(<a>)", "('a')", "(1)", "((?a))", "(?a ?b)", "(?a, ?b)", "(?a", "?a)", " ?a", "(* ?a)", "(?a *)", "(**)", "(DISTINCT DISTINCT ?a)", "(DISTINCT (?a))", "(?a DISTINCT)", "(STR(?a))", "(?a + 1)", "(_:a)", "[?a]", "(COUNT(?a))", "(-?a)"} {
				refuses(t, "SELECT ("+w+s+" AS ?n) { }", api.ErrWord)
			}
			for _, s := range []string{"SELECT " + w + "(?a) { }", "SELECT " + w + "(?a) AS ?n { }", "SELECT (" + w + "(?a)) { }", "SELECT (" + w + "(?a) ?n) { }", "SELECT (" + w + "(?a) AS) { }", "SELECT (" + w + "(?a) AS n) { }", "SELECT (" + w + "(?a) AS <n>) { }", "SELECT (" + w + "(?a) AS 'n') { }", "SELECT (" + w + "(?a) AS ?n { }", "SELECT (" + w + "(?a) AS ?n ?m) { }", "SELECT (" + w + "(?a) AS ?n, SUM(?a) AS ?m) { }", "SELECT ((" + w + "(?a) AS ?n)) { }", "SELECT ((" + w + "(?a)) AS ?n) { }", "SELECT (" + w + "(?a) + 1 AS ?n) { }", "SELECT (DISTINCT " + w + "(?a) AS ?n) { }", "SELECT (" + w + " (?a) AS ?n)", "SELECT * (" + w + "(?a) AS ?n) { }", "SELECT (" + w + "(?a) AS ?n) * { }", "SELECT (" + w + "(?a) AS AS ?n) { }", "SELECT (" + w + "(?a) AS (?n)) { }", "SELECT ('" + w + "'(?a) AS ?n) { }", "SELECT (<" + w + ">(?a) AS ?n) { }"} {
				refuses(t, s, api.ErrWord)
			}
		}
		none(t, "{ FILTER("+w+"(?a)) }", "{ BIND("+w+"(?a) AS ?n) }")
		refuses(t, "SELECT * { } ORDER BY "+w+"(?a)", api.ErrWord)
	}
	for _, w := range []string{"WHAT", "COUNTS", "COUN", "SAMPLE", "STR", "a", "true", "AS", "DISTINCT"} {
		refuses(t, "SELECT ("+w+"(?a) AS ?n) { }", api.ErrWord)
	}
}

// TestTold: names that stand there twice, that are taken, or that are not there.
func TestTold(t *testing.T) {
	for s, want := range map[string]api.Errno{
		"SELECT ?a ?a { }": api.ErrScope, "SELECT ?a ?b ?a { }": api.ErrScope, "SELECT ?a $a { ?a <b> ?c }": api.ErrScope, "SELECT ?a ?A { }": api.OK, "SELECT DISTINCT ?a ?a { }": api.ErrScope, "SELECT ?a ?b ?c ?d ?e ?f ?a { }": api.ErrScope,
		"SELECT (COUNT(*) AS ?a) (SUM(?b) AS ?a) { }": api.ErrScope, "SELECT (COUNT(*) AS ?a) (COUNT(*) AS ?b) { }": api.OK, "SELECT (COUNT(*) AS ?a) (COUNT(*) AS ?b) (COUNT(*) AS ?a) { }": api.ErrScope, "SELECT ?a (COUNT(*) AS ?a) { } GROUP BY ?a": api.ErrScope, "SELECT (COUNT(*) AS ?a) ?a { } GROUP BY ?a": api.ErrScope, "SELECT ?b (COUNT(*) AS ?a) { } GROUP BY ?b ?a": api.OK, "SELECT (COUNT(?a) AS ?b) (SUM(?a) AS ?c) { ?a <b> 1 }": api.OK, "SELECT (COUNT(?a) AS ?A) { ?a <b> 1 }": api.OK,
		"SELECT (COUNT(?a) AS ?a) { }": api.OK, "SELECT (COUNT(?a) AS ?a) { ?a <b> 1 }": api.ErrScope, "SELECT (COUNT(*) AS ?a) { <b> ?a 1 }": api.ErrScope, "SELECT (COUNT(*) AS ?a) { <b> <b> ?a }": api.ErrScope, "SELECT (COUNT(*) AS ?a) { OPTIONAL { ?a <b> 1 } }": api.ErrScope, "SELECT (COUNT(*) AS ?a) { BIND(1 AS ?a) }": api.ErrScope, "SELECT (COUNT(*) AS ?a) { VALUES ?a { } }": api.ErrScope, "SELECT (COUNT(*) AS ?a) { MINUS { ?a <b> 1 } }": api.OK, "SELECT (COUNT(*) AS ?a) { FILTER(?a) }": api.OK, "SELECT (COUNT(*) AS ?b) (COUNT(*) AS ?a) { ?a <b> 1 }": api.ErrScope, "SELECT (COUNT(*) AS ?n) { ?a <b> 1 } GROUP BY ?a": api.OK,
		"SELECT ?a { } GROUP BY ?a ?a": api.ErrScope, "SELECT ?a { } GROUP BY ?a ?b ?c ?b": api.ErrScope, "SELECT ?a { } GROUP BY ?a ?A": api.OK, "SELECT (COUNT(*) AS ?n) { } GROUP BY ?a ?a": api.ErrScope,
		"SELECT * { } GROUP BY ?a": api.ErrScope, "SELECT * { ?a <b> 1 } GROUP BY ?a": api.ErrScope, "SELECT ?a { } GROUP BY ?b": api.ErrScope, "SELECT ?a ?b { } GROUP BY ?b": api.ErrScope, "SELECT ?b ?a { } GROUP BY ?b": api.ErrScope, "SELECT ?a ?b { } GROUP BY ?b ?a": api.OK, "SELECT ?a { ?b <c> ?d } GROUP BY ?a": api.OK, "SELECT DISTINCT ?a { } GROUP BY ?b": api.ErrScope, "SELECT ?A { } GROUP BY ?a": api.ErrScope,
		"SELECT ?a (COUNT(*) AS ?n) { }": api.ErrScope, "SELECT (COUNT(*) AS ?n) ?a { ?a <b> 1 }": api.ErrScope, "SELECT ?a (COUNT(*) AS ?n) { } GROUP BY ?b": api.ErrScope, "SELECT ?a (COUNT(*) AS ?n) { } GROUP BY ?b ?a": api.OK, "SELECT ?a ?b (COUNT(*) AS ?n) { } GROUP BY ?a": api.ErrScope, "SELECT (COUNT(?x) AS ?n) { } GROUP BY ?a": api.OK, "SELECT (COUNT(*) AS ?n) { } GROUP BY ?n": api.OK,
		"SELECT ?a { } ORDER BY ?b ?b": api.OK, "SELECT ?a { } GROUP BY ?a ORDER BY ?b DESC(?b)": api.OK, "SELECT ?a ?b { ?c <d> 1 }": api.OK, "SELECT * { } ORDER BY ?a": api.OK,
	} {
		refuses(t, s, want)
		refuses(t, s+" LIMIT 5 OFFSET 6", want)
		refuses(t, s+" x", api.ErrWord)
		refuses(t, s+" LIMIT 1.5", api.ErrOver)
		refuses(t, s+" LIMIT", api.ErrWord)
	}
}

// P1402: ASK, CONSTRUCT

func TestAsk(t *testing.T) {
	asks(t, "ASK {}", api.Query{Form: api.QAsk, Where: nothing, Limit: -1})
	asks(t, "ask{?a<b>?c}", api.Query{Form: api.QAsk, Where: steps(step2("a", "b", "c")), Limit: -1})
	for _, s := range []string{"ASK", "ASK WHERE { }", "ASK * { }", "ASK ?a { }", "ASK DISTINCT { }", "ASK ?a <b> ?c", "ASK { } { }", "ASK { } ASK { }", "ASK ASK { }", "ASK { } LIMIT 1", "ASK { } OFFSET 1", "ASK { } ORDER BY ?a", "ASK { } GROUP BY ?a", "ASK { } WHERE { }", "ASK { } .", "ASK { } ;", "ASK { } }", "ASK ( )", "ASK FROM <a> { }", ""} {
		refuses(t, s, api.ErrWord)
	}
}

func TestConstruct(t *testing.T) {
	of := func(where api.Pattern, l ...api.Step) api.Query {
		return api.Query{Form: api.QConstruct, Where: where, Build: l, Limit: -1}
	}
	for _, s := range []string{"CONSTRUCT { } { }", "CONSTRUCT { } WHERE { }", "construct{}{}", "Construct{}Where{}"} {
		asks(t, s, of(nothing))
	}
	a, b := step2("a", "b", "c"), step2("d", "e", "f")
	asks(t, "CONSTRUCT { ?a <b> ?c } { ?d <e> ?f }", of(steps(b), a))
	asks(t, "CONSTRUCT { ?a <b> ?c . } WHERE { ?a <b> ?c . ?d <e> ?f . }", of(steps(a, b), a))
	asks(t, "CONSTRUCT { ?a <b> ?c . ?d <e> ?f } { }", of(nothing, a, b))
	asks(t, "CONSTRUCT { ?a <b> ?c, ?c ; <b> ?c ; . ?d (<e>) ?f . } { }", of(nothing, a, a, a, b))
	asks(t, "CONSTRUCT { _:a ?b _:c ; a 5 . 'd' <e> true } { }", of(nothing, api.Step{S: node("a"), P: vari("b"), O: node("c")}, api.Step{S: node("a"), P: ref(api.RType), O: typed("5", api.XInt)}, api.Step{S: lit("d"), P: ref("e"), O: typed("true", api.XBool)}))
	for _, s := range []string{"CONSTRUCT", "CONSTRUCT { }", "CONSTRUCT { } WHERE", "CONSTRUCT WHERE { }", "CONSTRUCT ?a <b> ?c { }", "CONSTRUCT { ?a } { }", "CONSTRUCT { ?a ?b } { }", "CONSTRUCT { . } { }", "CONSTRUCT { ?a <b> ?c .. } { }", "CONSTRUCT { ?a <b> ?c ?d <e> ?f } { }", "CONSTRUCT { { } } { }", "CONSTRUCT { ?a <b> ?c { } } { }", "CONSTRUCT { ?a <b> ?c FILTER(1) } { }", "CONSTRUCT { FILTER(1) } { }", "CONSTRUCT { OPTIONAL { } } { }", "CONSTRUCT { BIND(1 AS ?a) } { }", "CONSTRUCT { VALUES ?a { } } { }", "CONSTRUCT { } { } { }", "CONSTRUCT { } { } LIMIT 1", "CONSTRUCT { } { } OFFSET 1", "CONSTRUCT { } { } ORDER BY ?a", "CONSTRUCT { } { } GROUP BY ?a", "CONSTRUCT { } WHERE WHERE { }", "CONSTRUCT { } { } .", "CONSTRUCT * { } { }", "CONSTRUCT DISTINCT { } { }", "CONSTRUCT { ?a <b> 1;; } { }", "CONSTRUCT { ?a <b> 1, } { }", "CONSTRUCT { } . { }", "CONSTRUCT { ?a <b> ?c", "CONSTRUCT { ?a <b> ?c } WHERE { ", "CONSTRUCT ( ) { }", "CONSTRUCT { [ ] <b> 1 } { }", "CONSTRUCT { a a a } { }"} {
		refuses(t, s, api.ErrWord)
	}
	refuses(t, "CONSTRUCT { ?a <b>* 1 } { }", api.ErrMiss)
	refuses(t, "CONSTRUCT { ?a ^<b> 1 } { }", api.ErrMiss)
	refuses(t, "CONSTRUCT { ?a <b> 1 ; <c>|<d> 1 } { }", api.ErrMiss)
}

// P1403

func TestUpdate(t *testing.T) {
	a, b, c := step2("a", "b", "c"), step2("d", "e", "f"), api.Step{S: ref("a"), P: ref("b"), O: ref("c")}
	d := api.Step{S: node("a"), P: ref("b"), O: node("c")}
	for s, want := range map[string]api.Update{
		"CLEAR": {Clear: true}, " clear # x": {Clear: true}, "PREFIX p: <q> CLEAR": {Clear: true},
		"INSERT DATA { }": {Where: nothing}, "DELETE DATA { }": {Where: nothing}, "INSERT DATA { <a> <b> <c> }": {Ins: []api.Step{c}, Where: nothing}, "DELETE DATA { <a> <b> <c> . }": {Del: []api.Step{c}, Where: nothing}, "insert data{<a><b><c>,<c>;<b><c>;.<a>(<b>)<c>}": {Ins: []api.Step{c, c, c, c}, Where: nothing}, "INSERT DATA { _:a <b> _:c }": {Ins: []api.Step{d}, Where: nothing}, "INSERT DATA { _:a a 5 . 'a' a true }": {Ins: []api.Step{{S: node("a"), P: ref(api.RType), O: typed("5", api.XInt)}, {S: lit("a"), P: ref(api.RType), O: typed("true", api.XBool)}}, Where: nothing},
		"INSERT { } WHERE { }": {Where: nothing}, "DELETE { } WHERE { }": {Where: nothing}, "DELETE { } INSERT { } WHERE { }": {Where: nothing}, "INSERT { ?a <b> ?c } WHERE { ?d <e> ?f }": {Ins: []api.Step{a}, Where: steps(b)}, "DELETE { ?a <b> ?c . } WHERE { ?d <e> ?f }": {Del: []api.Step{a}, Where: steps(b)}, "delete { ?a <b> ?c } insert { ?d <e> ?f . ?a <b> ?c } where { ?d <e> ?f . ?a <b> ?c }": {Del: []api.Step{a}, Ins: []api.Step{b, a}, Where: steps(b, a)}, "INSERT { _:a <b> _:c } WHERE { }": {Ins: []api.Step{d}, Where: nothing}, "DELETE { <a> <b> <c> } INSERT { _:a <b> _:c } WHERE { }": {Del: []api.Step{c}, Ins: []api.Step{d}, Where: nothing}, "DELETE { } INSERT { <a> <b> <c> } WHERE { }": {Ins: []api.Step{c}, Where: nothing}, "DELETE { <a> <b> <c> } INSERT { } WHERE { }": {Del: []api.Step{c}, Where: nothing},
	} {
		changesTo(t, s, want)
	}
	for _, s := range []string{
		"", "CLEAR CLEAR", "CLEAR { }", "CLEAR ALL", "CLEAR DATA", "CLEAR .", "CLEAR ;", "CLEAR WHERE { }", "INSERT", "DELETE", "INSERT DATA", "DELETE DATA", "DATA { }", "INSERT { }", "DELETE { }", "WHERE { }", "INSERT WHERE { }", "DELETE WHERE { }", "DELETE INSERT WHERE { }", "INSERT { } { }", "DELETE { } { }", "DELETE { } INSERT { } { }", "DELETE { } INSERT { }", "INSERT { } DELETE { } WHERE { }", "INSERT { } INSERT { } WHERE { }", "DELETE { } DELETE { } WHERE { }", "DELETE { } INSERT { } INSERT { } WHERE { }", "INSERT { } WHERE", "DELETE { } WHERE", "INSERT { } WHERE WHERE { }", "INSERT { } WHERE { } { }", "INSERT { } WHERE { } .", "INSERT { } WHERE { } ;", "INSERT { } WHERE { } CLEAR", "INSERT { } WHERE { } LIMIT 1", "INSERT DATA { } WHERE { }", "DELETE DATA { } WHERE { }", "INSERT DATA { } { }", "INSERT DATA { } .", "INSERT DATA { } ; CLEAR", "DELETE DATA { } INSERT DATA { }", "DELETE DATA { } INSERT { } WHERE { }", "DELETE { } INSERT DATA { }", "DELETE { } DATA { }", "INSERT DATA DATA { }", "INSERT DATA { { } }", "INSERT DATA { . }", "INSERT DATA { <a> <b> <c> .. }", "INSERT DATA { <a> <b> <c> <a> <b> <c> }", "INSERT DATA { <a> }", "INSERT DATA { <a> <b> }", "INSERT DATA { <a> <b> <c> FILTER(1) }", "INSERT DATA <a> <b> <c>", "INSERT DATA ( )", "INSERT DATA { <a> <b> <c>", "INSERT { FILTER(1) } WHERE { }", "DELETE { { } } WHERE { }", "INSERT INTO { } WHERE { }", "WITH <a> DELETE { } WHERE { }", "LOAD <a>", "DROP ALL", "SELECT * { }", "ASK { }", "CONSTRUCT { } { }", "DATA", "'CLEAR'", "<CLEAR>", "?CLEAR", "DISTINCT", "{ }",
	} {
		rejects(t, s, api.ErrWord)
	}
	for _, s := range []string{"CLEAR", "INSERT DATA { }", "DELETE { } WHERE { }", "INSERT { } WHERE { }"} {
		refuses(t, s, api.ErrWord)
	}
	for _, v := range []string{"?a <b> <c>", "<a> ?b <c>", "<a> <b> ?c", "<a> <b> 1, ?c", "<a> <b> 1 ; ?b 1", "<a> <b> 1 . ?a <b> 1", "?a ?b ?c", "?a <b>* ?c", "?a <b> _:c"} {
		for _, tail := range []string{" }", "", " x:y", " ! }", " } x", " } WHERE { }"} {
			rejects(t, "INSERT DATA { "+v+tail, api.ErrScope)
			if !strings.Contains(v, "_:") {
				rejects(t, "DELETE DATA { "+v+tail, api.ErrScope)
			}
		}
		rejects(t, "DELETE { "+strings.ReplaceAll(strings.ReplaceAll(v, "_:", "?"), "*", "")+" } WHERE { }", api.OK)
		rejects(t, "INSERT { "+strings.ReplaceAll(v, "*", "")+" } WHERE { }", api.OK)
	}
	rejects(t, "DELETE DATA { ?a <b> _:c }", api.ErrScope)
	rejects(t, "DELETE DATA { _:a <b> ?c }", api.ErrMiss)
	rejects(t, "INSERT DATA { _:a <b> ?c }", api.ErrScope)
	rejects(t, "INSERT DATA { _:a <b>* ?c }", api.ErrMiss)
}

// P1402, P1403: which goes first

func TestFirst(t *testing.T) {
	long := "'" + x(61) + "'"
	for s, want := range map[string]api.Errno{
		"{ x:y ?": api.ErrName, "{ = x:y": api.ErrWord, "{ _:b x:y": api.ErrMiss, "{ x:y _:b": api.ErrName, "{ <> _:b": api.ErrArg, "{ _:b <>": api.ErrMiss, "{ ?" + x(13) + " _:b": api.ErrLong, "{ _:b ?" + x(13): api.ErrMiss, "{ " + long + " <>": api.ErrLong, "{ <> " + long: api.ErrArg, "{ ?a <b> " + long + " ?": api.ErrLong, "{ ?a <b> " + long + "@en x:y": api.ErrLong, "{ ?a <b> " + long + "^^x:y": api.ErrName, "{ ?a <b> " + long + "^^ ?": api.ErrWord, "{ ?a <b> " + long + "^^<> ?": api.ErrLong, "{ ?a <b> 'c'@abcdefghi ?": api.ErrLong, "{ ?a <b> 'c'^^<> ?": api.ErrWord,
		"{ ?a <b> ?c BIND(1 AS ?c) x:y": api.ErrScope, "{ ?a <b> ?c x:y BIND(1 AS ?c)": api.ErrName, "{ ?a <b> ?c BIND(x:y AS ?c)": api.ErrName, "{ ?a <b> ?c BIND(1 AS ?c }": api.ErrWord, "{ ?a <b> ?c BIND(1 AS ?" + x(13) + ")": api.ErrLong, "{ ?a <b> ?c BIND(1 AS ?c) _:b": api.ErrScope, "{ VALUES ?a { <> x:y": api.ErrArg, "{ VALUES ?a { x:y <>": api.ErrName, "{ VALUES ?a { <> ?b": api.ErrArg, "{ VALUES ?" + x(13) + " ?b": api.ErrLong, "{ FILTER(x:y": api.ErrName, "{ FILTER(<> x:y": api.ErrArg, "{ FILTER(" + long + " ?a": api.ErrLong, "{ FILTER(1 ?a x:y": api.ErrWord, "{ FILTER(?" + x(13) + " x:y": api.ErrLong, "{ ?a x:y/<>": api.ErrName, "{ ?a <>/x:y": api.ErrArg, "{ ?a <b>/<> _:b": api.ErrArg, "{ ?a <b>* _:b ?": api.ErrMiss, "{ ?a <b> 1 .. x:y": api.ErrWord, "{ ?a <b> 1 ;; x:y": api.ErrWord, "{ ?a <b> 1 ,, x:y": api.ErrWord,
		"{{{{{{{{{{ x:y": api.ErrName, "{{{{{{{{{{{ x:y": api.ErrDeep, "{{{{{{{{{{ = {": api.ErrWord, "{ x:y {{{{{{{{{{": api.ErrName, "{ FILTER((((((((((?" + x(13): api.ErrLong, "{ FILTER(((((((((((?" + x(13): api.ErrDeep, "{ FILTER((((((((((1 x:y": api.ErrWord, "{ FILTER((((((((((STR x:y": api.ErrWord, "{ ?a (((((((((<>": api.ErrArg, "{ ?a ((((((((((<>": api.ErrDeep,
		"{ " + list(1, 13) + " x:y": api.ErrName, "{ " + list(1, 13) + " BIND(1 AS ?v1) }": api.ErrScope, "{ " + list(1, 13) + " } x": api.ErrWord,
	} {
		bad(t, s, want)
		bad(t, s+" ! x:y <> _:b ?"+x(13)+" "+long+" ((((((((((( } }", want)
	}
	for s, want := range map[string]api.Errno{
		"PREFIX p <q> ASK { x:y": api.ErrWord, "x:y": api.ErrWord, "SELECT ?" + x(13) + " ?a ?a { x:y": api.ErrLong, "SELECT ?a ?a { x:y": api.ErrName, "SELECT ?a ?a { } LIMIT 1.5": api.ErrOver, "SELECT ?a ?a { ?b <c> ?d BIND(1 AS ?d) }": api.ErrScope, "SELECT ?a ?a { _:b": api.ErrMiss, "SELECT * { } LIMIT 1.5 OFFSET x": api.ErrOver, "SELECT * { } GROUP BY ?" + x(13) + " LIMIT 1.5": api.ErrLong, "SELECT * { } LIMIT 1000000 x:y": api.ErrOver, "SELECT (SUM(x:y": api.ErrWord, "SELECT (COUNT(?" + x(13) + " x:y": api.ErrLong,
		"CONSTRUCT { ?a <b>* _:" + x(21): api.ErrMiss, "CONSTRUCT { _:" + x(21) + " <b>* 1": api.ErrArg, "CONSTRUCT { ?a <b>/x:y 1": api.ErrName, "CONSTRUCT { ?a <b>/<> 1": api.ErrArg, "CONSTRUCT { ?a <b>/ }": api.ErrWord, "CONSTRUCT { ?a <b> 1 } { _:b": api.ErrMiss, "CONSTRUCT { ?a <b>* 1 } { x:y": api.ErrMiss,
	} {
		refuses(t, s, want)
		refuses(t, "PREFIX p: <q> "+s, want)
	}
	for s, want := range map[string]api.Errno{
		"INSERT DATA { ?" + x(13): api.ErrLong, "INSERT DATA { ?a x:y": api.ErrScope, "INSERT DATA { x:y ?a": api.ErrName, "INSERT DATA { <> ?a": api.ErrArg, "INSERT DATA { ?a <>": api.ErrScope, "INSERT DATA { <a> <b>* ?c": api.ErrMiss, "INSERT DATA { <a> ?b <c>*": api.ErrScope, "INSERT DATA { _:" + x(21) + " ?a": api.ErrArg, "INSERT DATA { ?a _:" + x(21): api.ErrScope, "INSERT DATA { <a> <b>/?c": api.ErrWord, "DELETE DATA { _:" + x(21): api.ErrMiss, "DELETE DATA { _:a ?b": api.ErrMiss, "DELETE DATA { ?a _:b": api.ErrScope, "DELETE DATA { <a> <b>* _:c": api.ErrMiss, "DELETE DATA { <> _:c": api.ErrArg, "DELETE { _:" + x(61): api.ErrMiss, "DELETE { ?" + x(13) + " _:b": api.ErrLong, "DELETE { x:y _:b": api.ErrName, "DELETE { _:b x:y": api.ErrMiss, "DELETE { ?a <b> 1 } INSERT { _:" + x(21): api.ErrArg, "DELETE { " + list(1, 13) + " } WHERE { x:y": api.ErrName, "DELETE { ?a <b> 1 } WHERE { _:b": api.ErrMiss, "DELETE { ?a <b> 1 } _:b": api.ErrWord,
	} {
		rejects(t, s, want)
		rejects(t, "PREFIX p: <q> "+s+" ! x:y <> _:b", want)
	}
}

// TestLexError: nothing is read of a text that has no tokens, wherever that is told.
func TestLexError(t *testing.T) {
	early := []string{"x:y", "ASK { x:y", "ASK { <> ", "ASK { _:b ", "ASK {{{{{{{{{{{", "ASK { ?" + x(13), "SELECT * { } LIMIT 1.5", "SELECT ?a ?a { }", "INSERT DATA { ?a", "DELETE { _:a", "", "ASK { }", "CLEAR"}
	for _, s := range []string{"&", "\"", "'a", "\"a\n\"", "'\\q'", "_", "_ :a", "$", "@", "@1", "\x00", "é", "\xff", "%", "\\", "`", "~"} {
		for _, front := range early {
			refuses(t, front+" "+s, api.ErrWord)
			rejects(t, front+" "+s, api.ErrWord)
		}
	}
	for _, front := range append(early, "&", "'") {
		for _, s := range []string{front + strings.Repeat(" ", longest+1-len(front)), strings.Repeat("\n", longest+1-len(front)) + front, front + strings.Repeat("#", 1<<20)} {
			refuses(t, s, api.ErrLong)
			rejects(t, s, api.ErrLong)
		}
		holds(t, front+strings.Repeat(" ", longest-len(front)))
	}
	refuses(t, "ASK { }"+strings.Repeat(" ", longest-7), api.OK)
	rejects(t, strings.Repeat(" ", longest-5)+"CLEAR", api.OK)
	for _, s := range []string{"", " ", "\n\t\r", "#", "# ASK { }", "#\n#\n"} {
		refuses(t, s, api.ErrWord)
		rejects(t, s, api.ErrWord)
		refuses(t, s+"\nASK"+s+"\n{"+s+"\n}"+s, api.OK)
		rejects(t, s+"\nCLEAR"+s, api.OK)
	}
}
