package parse_test

import (
	"slices"
	"strings"
	"testing"

	"triad/api"
)

// holds is of both.
func holds(t *testing.T, s string) {
	t.Helper()
	asked(t, s)
	changed(t, s)
}

// alphabet are tokens of all kinds.
func alphabet() []string {
	return []string{"<a>", "<>", "p:", "p:b", "x:y", "_:c", "?v", "$w", "?abcdefghijklm", "'t'", "@en", "^^", "5", "5.5", "1234567", "a", "true", "w", "{", "}", "(", ")", ".", ";", ",", "+", "-", "*", "/", "|", "^", "?", "!", "=", "<", ">=", "||", "&&",
		"SELECT", "distinct", "WHERE", "ASK", "Construct", "PREFIX", "AS", "GROUP", "BY", "order", "ASC", "desc", "LIMIT", "offset", "COUNT", "sum", "optional", "MINUS", "Union", "BIND", "values", "FILTER", "BOUND", "str", "contains", "IF", "Coalesce", "CLEAR", "INSERT", "delete", "Data"}
}

// grow goes through all rows of up to so many more tokens behind a text of which none yet does not fit.
func grow(t *testing.T, front string, most int) int {
	n := 0
	for _, s := range alphabet() {
		n++
		s = front + s + " "
		words := strings.Count(s, " ")
		_, e, at := asked(t, s)
		_, f, there := changed(t, s)
		if most > 1 && (e == api.OK || f == api.OK || e == api.ErrWord && at == words || f == api.ErrWord && there == words) {
			n += grow(t, s, most-1)
		}
	}
	return n
}

// TestAllShort goes on behind nothing, and behind fronts of all kinds.
func TestAllShort(t *testing.T) {
	t.Parallel()
	n := grow(t, "", 4)
	for _, front := range []string{
		"ASK { ", "ASK { ?a ", "ASK { ?a <b> ", "ASK { ?a <b> ?c ", "ASK { ?a <b> 't' ", "ASK { ?a ^ ", "ASK { ?a <b> / ", "ASK { ?a ( <b> ", "ASK { { } ", "ASK { FILTER ( ", "ASK { FILTER ( ?a ", "ASK { FILTER ( 1 + 2 ", "ASK { FILTER ( - ", "ASK { FILTER ( STR ( ", "ASK { FILTER ( CONTAINS ( 1 ", "ASK { FILTER ( IF ( 1 , 2 ", "ASK { FILTER ( COALESCE ( 1 ", "ASK { BIND ( 1 ", "ASK { VALUES ?a { ", "ASK { { } UNION ", "ASK { } ",
		"SELECT ", "SELECT ?a ", "SELECT ( ", "SELECT ( COUNT ( ", "SELECT ( SUM ( ?a ", "SELECT ?v { } GROUP BY ", "SELECT * { } ORDER BY ", "SELECT * { } ", "SELECT * { } LIMIT 1 ", "CONSTRUCT { ", "CONSTRUCT { ?a <b> _:c ", "CONSTRUCT { } ",
		"INSERT DATA { ", "INSERT DATA { <a> <b> ", "DELETE DATA { <a> ", "DELETE { ", "INSERT { ?v ", "DELETE { } ", "INSERT { } ", "PREFIX p: <q> ASK { ?a p: ",
	} {
		n += grow(t, front, 3)
	}
	if n < 100000 {
		t.Errorf("%d texts only", n)
	}
}

// samples are texts of all kinds.
func samples() []string {
	return []string{
		"", " # a\n", "ASK {}", "CLEAR", "PREFIX p: <q#> PREFIX : <r/> ASK { p:a :b p: . ?x a 'y'@en, \"z\"^^p:t ; $v -5.25, + 1 ;. }",
		"SELECT DISTINCT ?a (COUNT(DISTINCT *) AS ?n) (sum(?b) as ?s) WHERE { ?a <p> ?b } GROUP BY ?a ORDER BY ?a DESC(?n) LIMIT 10 OFFSET 007",
		"SELECT * { ?a ^<p>*/(<q>|a)+ ?b OPTIONAL { ?b <r>? 5 } . MINUS { } { } UNION { ?c ?d ?e } BIND(1 + ?a AS ?f) VALUES ?g { 1 <h> 'i' -2 true } FILTER(!(?a = ?b) && -?c * 2 <= 3 || BOUND(?d)) }",
		"ASK { FILTER(IF(CONTAINS(STR(?a), 'x'), COALESCE(1, ?b, <c>), sameTerm(isIRI(?a), LANG(?b)) != true)) }",
		"CONSTRUCT { ?a <b> _:c ; a 5 . } WHERE { ?a ?b ?c }", "INSERT DATA { <a> <b> 1, _:c . _:c a false }", "DELETE DATA { <a> <b> 1 . }", "DELETE { ?a ?b ?c } INSERT { ?c ?b _:a } WHERE { ?a ?b ?c }",
		"ASK { ?a <p>/x:y ?b }", "SELECT ?a ?a {}", "ASK { ?a <b> ?c BIND(1 AS ?c) }", "ASK {{{{{{{{{{{}}}}}}}}}}}", "DELETE { _:a <b> <c> } WHERE { }", "INSERT DATA { ?a <b>* <c> }", "SELECT * {} LIMIT 1234567",
	}
}

// TestEachByte puts every byte at each place of some texts, and others for their own.
func TestEachByte(t *testing.T) {
	for _, s := range samples() {
		t.Run("", func(t *testing.T) {
			t.Parallel()
			for at := range len(s) + 1 {
				for i := range 256 {
					holds(t, s[:at]+string([]byte{byte(i)})+s[at:])
				}
				for _, c := range "\x00\n #<>{}()[].;,=!+-*/|^&?$@_:'\"\\aASz05~\u00e9" {
					holds(t, s[:at]+string(c)+s[min(at+1, len(s)):])
				}
				holds(t, s[:at]+s[min(at+1, len(s)):])
			}
		})
	}
}

// die throws numbers.
type die uint64

func (d *die) of(k int) int {
	*d = *d*6364136223846793005 + 1442695040888963407
	return int(uint64(*d) >> 33 % uint64(k))
}

func (d *die) pick(l ...string) string { return l[d.of(len(l))] }

// write throws a text by the rules, of tokens with a blank behind each; where there is no more room, it ends soon.
func (d *die) write(thing string, room int) []string {
	var out []string
	todo := []string{thing}
	for len(todo) > 0 {
		y := todo[len(todo)-1]
		todo = todo[:len(todo)-1]
		switch {
		case rules[y] != nil:
			is := rules[y][d.of(len(rules[y]))].is
			for _, r := range rules[y] {
				if len(out)+len(todo) > room && len(r.is) < len(is) {
					is = r.is
				}
			}
			for _, z := range slices.Backward(is) {
				todo = append(todo, z)
			}
		case len(y) > 1 && y[0] == '#', y == "end":
		default:
			out = append(out, d.token(y)+" ")
		}
	}
	return out
}

// token throws one of a kind.
func (d *die) token(kind string) string {
	switch kind {
	case "iri":
		return d.pick("<a>", "<b>", "<http://x/y#z>", "<c>", "<a>", "<b>", "<>", "<"+x(61)+">")
	case "name":
		return d.pick("p:b", ":c", "p:b.c", "p:b", ":c", "x:y")
	case "name:":
		return d.pick("p:", ":", "p:", "x:")
	case "blank":
		return d.pick("_:c", "_:d", "_:"+x(20), "_:c", "_:"+x(21))
	case "var":
		return "?" + d.pick("a", "b", "c", "a", "b", "d", "e", "f", "g", "abcdefghijkl", "h", "i", "j", "k_1", "a", "b", "l", "m") + d.pick("", "", "", "", "", "", "", "", "", "2", "3", "nopqrstuvwxyz"[:d.of(14)])
	case "text":
		return d.pick("'t'", "\"u v\"", "''", "'\\n'", "'t'", "'"+x(61)+"'")
	case "lang":
		return d.pick("@en", "@e-n", "@prefix", "@abcdefghi")
	case "num":
		return d.pick("5", "0", "007", "5.25", "123456", "12", "1234567")
	case "a", "true", "false":
		return kind
	case "lang()":
		kind = "lang"
	}
	switch d.of(3) {
	case 0:
		return strings.ToUpper(kind)
	case 1:
		return strings.ToUpper(kind[:1]) + kind[1:]
	}
	return kind
}

// some are steps of some variables.
func (d *die) some(most int) string {
	s := ""
	for range d.of(most) {
		s += "?v" + d.pick("1", "2", "3", "4", "5", "6", "7", "8", "9") + " <p> ?w" + d.pick("1", "2", "3", "4", "5") + " . "
	}
	return s
}

// TestThrown has texts by the rules, and what is left when a token of one is gone, or another, or twice there.
func TestThrown(t *testing.T) {
	t.Parallel()
	d := die(1401)
	had := map[api.Errno]int{}
	check := func(s string) {
		_, e, _ := asked(t, s)
		_, f, _ := changed(t, s)
		had[e]++
		had[f]++
	}
	for i := range 6000 {
		f := d.write([]string{"Query", "Update"}[i%2], []int{10, 30, 60, 120}[d.of(4)])
		if d.of(2) == 0 {
			f = append([]string{"PREFIX ", "p: ", "<q#> ", "prefix ", ": ", "<> "}, f...)
		}
		check(strings.Join(f, ""))
		for range 3 {
			i, k := d.of(len(f)), d.of(len(f))
			for _, m := range [][]string{slices.Delete(slices.Clone(f), i, i+1), slices.Insert(slices.Clone(f), i, f[k]), slices.Replace(slices.Clone(f), i, i+1, f[k]), slices.Insert(slices.Clone(f), i, alphabet()[d.of(len(alphabet()))]+" "), f[:i]} {
				check(strings.Join(m, ""))
			}
		}
	}
	for range 2000 {
		check("CONSTRUCT { " + d.some(10) + "} { " + d.some(8) + "MINUS { " + d.some(8) + "} OPTIONAL { " + d.some(8) + "VALUES ?v1 { } } }")
		check("DELETE { " + d.some(5) + "} INSERT { " + d.some(8) + "} WHERE { " + d.some(8) + "BIND(1 AS ?x) }")
	}
	for range 20000 {
		s := d.pick("", "ASK { ", "SELECT * { ", "INSERT DATA { ", "ASK { FILTER ( ", "CONSTRUCT { ")
		for range d.of(20) {
			s += d.pick(alphabet()...) + d.pick(" ", " ", "", "\n")
		}
		check(s)
		b := make([]byte, d.of(12))
		for i := range b {
			b[i] = byte(d.of(256))
		}
		check(string(b))
		check("ASK { ?a " + string(b) + " }")
	}
	for e, n := range map[api.Errno]int{api.OK: 1000, api.ErrWord: 1000, api.ErrName: 100, api.ErrArg: 100, api.ErrLong: 100, api.ErrScope: 100, api.ErrMiss: 100, api.ErrOver: 100, api.ErrMany: 100, api.ErrDeep: 1} {
		if had[e] < n {
			t.Errorf("%v was thrown %d times only", e, had[e])
		}
	}
}

// TestThrownDeep throws brackets of all kinds that count, and that do not.
func TestThrownDeep(t *testing.T) {
	t.Parallel()
	d := die(10)
	had := map[api.Errno]int{}
	for range 20000 {
		s, ends := "ASK { ", []string{"} "}
		in := "g"
		for range 8 + d.of(14) {
			y, end := "", ""
			switch in + d.pick("0", "1", "2", "3", "4", "5") {
			case "g0", "g1":
				y, end = d.pick("{ ", "OPTIONAL { ", "MINUS { ", "{ } UNION { "), "} "
			case "g2":
				y, end, in = "FILTER ( ", ") ", "e"
			case "g3":
				y, end, in = "BIND ( ", "AS ?x ) ", "e"
			case "g4":
				y, end, in = "?a "+d.pick("", "^ ", "<b> / ")+"( ", ") ?b ", "w"
			case "g5":
				y = d.pick("VALUES ?v { 1 } ", "{ { } } ", "FILTER ( ( 1 ) ) ", "?a ( <b> ) ?c . ")
			case "w0", "w1", "w2", "w3", "w4":
				y, end = d.pick("( ", "^ ( ", "<c> | ( "), d.pick(") ", ") * ")
			case "e5":
				y = d.pick("( 1 ) + ", "BOUND ( ?a ) = ", "STR ( 1 ) * ")
			case "e0", "e1", "e2", "e3", "e4":
				y, end = d.pick("( ", "! ( ", "STR ( ", "1 + ( ", "COALESCE ( 1 , ", "CONTAINS ( 1 , "), ") "
			}
			s += y
			if end != "" {
				ends = append(ends, end)
			}
		}
		switch in {
		case "w":
			s += d.pick("<c> ", "a ")
		case "e":
			s += d.pick("1 ", "?a ", "BOUND ( ?a ) ")
		}
		slices.Reverse(ends)
		_, e, _ := asked(t, s+strings.Join(ends, ""))
		had[e]++
		asked(t, s+strings.Join(ends[:d.of(len(ends))], "")+d.pick(alphabet()...))
	}
	for _, e := range []api.Errno{api.OK, api.ErrDeep} {
		if had[e] < 1000 {
			t.Errorf("%v was thrown %d times only", e, had[e])
		}
	}
}

func FuzzQuery(f *testing.F) {
	for _, s := range samples() {
		f.Add(s)
	}
	d := die(14)
	for range 40 {
		f.Add(strings.Join(d.write("Query", 60), ""))
		f.Add(strings.Join(d.write("Update", 60), ""))
	}
	f.Fuzz(holds)
}
