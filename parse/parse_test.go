package parse_test

import (
	"strings"
	"testing"

	"triad/api"
)

// P1401: groups

// all tells faults where groups are not these patterns in short.
func all(t *testing.T, l map[string]string) {
	t.Helper()
	for s, want := range l {
		means(t, s, want)
	}
}

// none tells faults where groups have another error than ErrWord.
func none(t *testing.T, l ...string) {
	t.Helper()
	for _, s := range l {
		bad(t, s, api.ErrWord)
	}
}

func TestGroup(t *testing.T) {
	all(t, map[string]string{
		"{}": "[]", " {\n}": "[]", "{ { } }": "[]", "{{{}}}": "[]", "{ ?a <b> ?c }": "[?a <b> ?c]", "{ { ?a <b> ?c } }": "[?a <b> ?c]",
		"{ { } { } }": "join([] [])", "{ { } ?a <b> ?c }": "join([] [?a <b> ?c])", "{ ?a <b> ?c { } }": "join([?a <b> ?c] [])", "{ { } { } { } }": "join(join([] []) [])", "{ { { } { } } { } }": "join(join([] []) [])", "{ { } { { } { } } }": "join([] join([] []))",
		"{ ?a <b> ?c ?d <e> ?f }": "join([?a <b> ?c] [?d <e> ?f])", "{ ?a <b> ?c . ?d <e> ?f }": "[?a <b> ?c, ?d <e> ?f]", "{ ?a <b> ?c . { } ?d <e> ?f }": "join(join([?a <b> ?c] []) [?d <e> ?f])",
		"{ { ?a <b> ?c } UNION { ?a <d> ?c } }": "union([?a <b> ?c] [?a <d> ?c])", "{ { } UNION { ?a <b> ?c } UNION { ?d <e> ?f } }": "union(union([] [?a <b> ?c]) [?d <e> ?f])", "{ { } UNION { } { } UNION { } }": "join(union([] []) union([] []))", "{ { } { } UNION { } }": "join([] union([] []))", "{ { { } UNION { } } UNION { } }": "union(union([] []) [])", "{ { } UNION { { } UNION { } } }": "union([] union([] []))",
		"{ OPTIONAL { } }": "left([] [])", "{ OPTIONAL { ?a <b> ?c } ?d <e> ?f }": "join(left([] [?a <b> ?c]) [?d <e> ?f])", "{ ?d <e> ?f OPTIONAL { ?a <b> ?c } }": "left([?d <e> ?f] [?a <b> ?c])", "{ OPTIONAL { } OPTIONAL { } }": "left(left([] []) [])", "{ OPTIONAL { OPTIONAL { } } }": "left([] left([] []))",
		"{ MINUS { ?a <b> ?c } }": "minus([] [?a <b> ?c])", "{ MINUS { } { } }": "join(minus([] []) [])", "{ { } MINUS { } OPTIONAL { } }": "left(minus([] []) [])",
		"{ BIND(1 AS ?a) }": "bind([] \"1\" ?a)", "{ BIND(1 AS ?a) BIND(2 AS ?b) { } }": "join(bind(bind([] \"1\" ?a) \"2\" ?b) [])", "{ BIND(?z AS ?a) ?a <b> ?z }": "join(bind([] ?z ?a) [?a <b> ?z])", "{ ?a <b> ?c BIND((1) AS ?d) }": "bind([?a <b> ?c] \"1\" ?d)",
		"{ VALUES ?a { } }": "values(?a)", "{ VALUES ?a {} VALUES ?a { 1 } }": "join(values(?a) values(?a \"1\"))", "{ { } VALUES ?a { 1 } }": "join([] values(?a \"1\"))", "{ VALUES ?a { 1 1 } OPTIONAL { } }": "left(values(?a \"1\" \"1\") [])",
		"{ FILTER(1) }": "filter([] \"1\")", "{ FILTER(1) FILTER(2) FILTER(3) }": "filter(filter(filter([] \"1\") \"2\") \"3\")", "{ FILTER(1) ?a <b> ?c FILTER(2) { } }": "filter(filter(join([?a <b> ?c] []) \"1\") \"2\")", "{ FILTER(1) BIND(2 AS ?a) }": "filter(bind([] \"2\" ?a) \"1\")", "{ { FILTER(1) } }": "filter([] \"1\")", "{ { FILTER(1) } FILTER(2) }": "filter(filter([] \"1\") \"2\")", "{ FILTER(1) { } { FILTER(2) } }": "filter(join([] filter([] \"2\")) \"1\")", "{ OPTIONAL { FILTER(1) } }": "left([] filter([] \"1\"))", "{ FILTER(1) OPTIONAL { } }": "filter(left([] []) \"1\")", "{ FILTER(1) VALUES ?a { } }": "filter(values(?a) \"1\")", "{ ?a <b> ?c FILTER(1) ?d <e> ?f }": "filter(join([?a <b> ?c] [?d <e> ?f]) \"1\")", "{ ?a <b> ?c . FILTER(1) ?d <e> ?f }": "filter(join([?a <b> ?c] [?d <e> ?f]) \"1\")",
	})
	none(t, "", "{", "}", "{ } }", "{ { }", "{ { } } }", "( )", "[ ]", "{ [ ] }", "{ ( ) }", "{ UNION { } }", "{ { } UNION }", "{ { } UNION ?a <b> ?c }", "{ ?a <b> ?c UNION { } }", "{ { } UNION UNION { } }", "{ { } . UNION { } }", "{ OPTIONAL }", "{ OPTIONAL ?a <b> ?c }", "{ OPTIONAL OPTIONAL { } }", "{ OPTIONAL . { } }", "{ MINUS }", "{ MINUS ?a <b> ?c }", "{ OPTIONAL { } UNION { } }", "{ MINUS { } UNION { } }", "{ w }", "{ a }", "{ SELECT * { } }", "{ ASK { } }", "{ WHERE { } }", "{ GRAPH { } }", "{ 'OPTIONAL' { } }", "{ <OPTIONAL> { } }")
	bad(t, "{ OPTIONAL: { } }", api.ErrName)
}

// TestDots: one may stand behind each but steps, which have their own.
func TestDots(t *testing.T) {
	for s, want := range map[string]string{"{ }": "[]", "{ } UNION { }": "union([] [])", "OPTIONAL { }": "left([] [])", "MINUS { }": "minus([] [])", "BIND(1 AS ?a)": "bind([] \"1\" ?a)", "VALUES ?a { }": "values(?a)", "FILTER(1)": "filter([] \"1\")", "?a <b> ?c": "[?a <b> ?c]", "?a <b> ?c; <d> ?e": "[?a <b> ?c, ?a <d> ?e]", "?a <b> ?c;": "[?a <b> ?c]"} {
		means(t, "{ "+s+" }", want)
		means(t, "{ "+s+" . }", want)
		means(t, "{"+s+".}", want)
		none(t, "{ . "+s+" }", "{ "+s+" . . }", "{ "+s+".. }", "{ "+s+" , }", "{ "+s+" ; ; }", "{ "+s+" . ; }", "{ "+s+" . , }", "{ "+s+" } .")
		for _, y := range []string{"{ }", "OPTIONAL { }", "BIND(1 AS ?z)", "FILTER(2)", "VALUES ?y { 3 }"} {
			none(t, "{ "+y+" . . "+s+" }", "{ "+s+" . . "+y+" }", "{ . "+y+" "+s+" }", "{ "+y+" "+s+" . . }")
			q, e, _ := asked(t, "ASK { "+s+" "+y+" }")
			r, f, _ := asked(t, "ASK { "+s+" . "+y+" . }")
			if e != api.OK || f != api.OK || !same(q, r) {
				fault(t, "P1401: { %s . %s . }: %s %v, not %s %v", s, y, tell(r), f, tell(q), e)
			}
		}
	}
	none(t, "{ . }", "{ .. }", "{ { . } }", "{ OPTIONAL { . } }")
	means(t, "{ { } . { } . }", "join([] [])")
	means(t, "{ ?a <b> ?c . { } . ?d <e> ?f . }", "join(join([?a <b> ?c] []) [?d <e> ?f])")
}

func TestSteps(t *testing.T) {
	all(t, map[string]string{
		"{ ?a ?b ?c }": "[?a ?b ?c]", "{ ?a a ?c }": "[?a TYPE ?c]", "{ <a> <b> <c> . }": "[<a> <b> <c>]", "{ $a $b $a }": "[?a ?b ?a]", "{ 'x' <b> 5 }": "[\"x\"s <b> \"5\"]", "{ true a false }": "[\"true\"b TYPE \"false\"b]", "{ +5 <b> -5 }": "[\"5\" <b> \"-5\"]", "{ - 5 ?b + 5.0 }": "[\"-5\" ?b \"5.0\"d]",
		"{ ?a <b> 1, 2, 3 }": "[?a <b> \"1\", ?a <b> \"2\", ?a <b> \"3\"]", "{ ?a <b> 1; <c> 2; ?d 3 }": "[?a <b> \"1\", ?a <c> \"2\", ?a ?d \"3\"]", "{ ?a <b> 1, 2; <c> 3, 4; . ?d <e> 5 }": "[?a <b> \"1\", ?a <b> \"2\", ?a <c> \"3\", ?a <c> \"4\", ?d <e> \"5\"]", "{ ?a <b> 1; }": "[?a <b> \"1\"]", "{ ?a <b> 1; . }": "[?a <b> \"1\"]", "{ ?a <b> 1; a 2; . }": "[?a <b> \"1\", ?a TYPE \"2\"]", "{ ?a <b> 1; ^<c> 2; (<d>)* 3 }": "[?a <b> \"1\", ?a inv(<c>) \"2\", ?a star(<d>) \"3\"]",
		"{ ?a <b> 1; { } }": "join([?a <b> \"1\"] [])", "{ ?a <b> 1; 'x' <c> 2 }": "join([?a <b> \"1\"] [\"x\"s <c> \"2\"])", "{ ?a <b> 1; true <c> 2 }": "join([?a <b> \"1\"] [\"true\"b <c> \"2\"])",
		"{ ?a <b> 1 . 2 <c> 3 . + 4 <d> 5 . -6 <d> 7 . true <e> 8 . false a 9 . 'f' <g> 10 . ?h <i> 11 }": "[?a <b> \"1\", \"2\" <c> \"3\", \"4\" <d> \"5\", \"-6\" <d> \"7\", \"true\"b <e> \"8\", \"false\"b TYPE \"9\", \"f\"s <g> \"10\", ?h <i> \"11\"]",
		"{ ?a <b> +5 }": "[?a plus(<b>) \"5\"]", "{ ?a <b> + +5 }": "[?a plus(<b>) \"5\"]", "{ ?a a -5 }": "[?a TYPE \"-5\"]", "{ ?a ?b +5 }": "[?a ?b \"5\"]", "{ ?a <b> * 5 }": "[?a star(<b>) \"5\"]", "{ ?a <b> ? ?c }": "[?a opt(<b>) ?c]", "{ ?a <b>?c }": "[?a <b> ?c]", "{ ?a <b>??c }": "[?a opt(<b>) ?c]",
	})
	none(t, "{ ?a }", "{ ?a <b> }", "{ ?a <b> . }", "{ ?a . }", "{ ?a <b> ?c ?d }", "{ ?a <b> ?c . ?d }", "{ ?a <b> ?c . ?d <e> }", "{ ?a <b> 1,, 2 }", "{ ?a <b> 1, }", "{ ?a <b> 1, . }", "{ ?a <b> , 1 }", "{ ?a <b> 1,; <c> 2 }", "{ ?a <b> 1;, 2 }", "{ ?a <b> 1;; }", "{ ?a <b> 1;; <c> 2 }", "{ ?a <b> 1; ; . }", "{ ?a ; <b> 1 }", "{ ?a , <b> 1 }", "{ ; }", "{ , }", "{ ?a <b> 1; <c> }", "{ ?a <b> 1; ?d }", "{ ?a <b> ?c; ?d <e> ?f }", "{ ?a <b> 1; 2 }", "{ ?a <b> 1; <c> 2 3 }",
		"{ ?a 5 ?c }", "{ ?a 'b' ?c }", "{ ?a true ?c }", "{ ?a _:b ?c }", "{ ?a w ?c }", "{ ?a A ?c }", "{ a <b> ?c }", "{ ?a <b> a }", "{ ?a <b> w }", "{ ?a <b> True }", "{ TRUE <b> ?c }", "{ ?a <b> False }", "{ ?a <b> [ ] }", "{ ?a <b> ( ) }", "{ [ ] <b> ?c }", "{ ( 1 ) <b> ?c }", "{ ?a <b> - }", "{ ?a <b> - <c> }", "{ ?a <b> - -5 }", "{ ?a <b> -'c' }", "{ ?a <b> -?c }", "{ + <b> ?c }", "{ ?a <b> 'c'^^ }", "{ ?a <b> 'c'^^5 }", "{ ?a <b> 'c'^^?d }", "{ ?a <b> 'c'^^a }", "{ ?a <b> 'c'@en@en }", "{ ?a <b> 5@en }", "{ ?a <b> 5^^<c> }", "{ ?a <b> @en }", "{ ?a <b> ?c @en }", "{ ?a <b> {} }", "{ ?a <b> ?c = }", "{ 1 }", "{ 'x' }", "{ <a> }")
}

// literals are such, and each in short; those without a sign of their own first.
func literals() (unsigned, signed map[string]string) {
	return map[string]string{
		"5": `"5"`, "0": `"0"`, "007": `"007"`, "5.0": `"5.0"d`, "00.50": `"00.50"d`, strings.Repeat("9", 60): `"` + strings.Repeat("9", 60) + `"`, "true": `"true"b`, "false": `"false"b`,
		"'c'": `"c"s`, "\"c\"": `"c"s`, "''": `""s`, "'true'": `"true"s`, "'5'": `"5"s`, "'\\n\\\"'": `"\n\""s`, "'" + x(60) + "'": `"` + x(60) + `"s`, "'c'@en": `"c"@en`, "'c' @e-n-": `"c"@e-n-`, "'c'@abcdefgh": `"c"@abcdefgh`, "'c'@prefix": `"c"@prefix`, "'c'@base": `"c"@base`, "'c'^^<d>": `"c"^^<d>`, "'c' ^^ <d>": `"c"^^<d>`, "'c'^^<" + x(60) + ">": `"c"^^<` + x(60) + ">", "'c'^^p:d": `"c"^^<q#d>`, "'c'^^p:": `"c"^^<q#>`, "'5'^^<" + api.XInt + ">": `"5"`, "'c'^^<>": `"c"s`, "'\xff'": "\"\xff\"s",
	}, map[string]string{
		"-5": `"-5"`, "+5": `"5"`, "- 5": `"-5"`, "+ 5": `"5"`, "-0": `"-0"`, "+0.0": `"0.0"d`, "-5.25": `"-5.25"d`, "+" + strings.Repeat("9", 60): `"` + strings.Repeat("9", 60) + `"`, "-" + strings.Repeat("9", 59): `"-` + strings.Repeat("9", 59) + `"`,
	}
}

// iris are such, and each in short.
func iris() map[string]string {
	return map[string]string{"<b>": "<b>", "<a/../b>": "<a/../b>", "<../b>": "<../b>", "<./b?c#d>": "<./b?c#d>", "<b#>": "<b#>", "<" + x(60) + ">": "<" + x(60) + ">", "p:b": "<q#b>", "p:": "<q#>", "p:b.c-d_e": "<q#b.c-d_e>", "p:5": "<q#5>", "p:" + x(58): "<q#" + x(58) + ">", "a:b": "<s/b>", "true:": "<t>", "<\xff>": "<\xff>", "<é>": "<é>"}
}

const prefixes = "PREFIX p: <q#> PREFIX a: <s/> PREFIX true: <t> PREFIX e: <> PREFIX l: <xxxxxxxxxxxxxxxxxxxxxxxxxxxxxxxxxxxxxxxxxxxxxxxxxxxxxxxxxxxxx> "

// shows tells a fault where the group of a question with prefixes is not this in short.
func shows(t *testing.T, s, want string) {
	t.Helper()
	q, e, _ := asked(t, prefixes+"ASK "+s)
	if got := pattern(q.Where); e != api.OK || got != want {
		fault(t, "P1401: %s: %s %v, not %s", clip(s), clip(got), e, clip(want))
	}
}

func TestTerms(t *testing.T) {
	unsigned, signed := literals()
	for _, l := range []map[string]string{unsigned, signed, iris()} {
		for s, want := range l {
			shows(t, "{ "+s+" ?b "+s+" }", "["+want+" ?b "+want+"]")
			shows(t, "{ "+s+" a 1 , "+s+" , "+s+" ; ?c "+s+" . "+s+" ?d "+s+" . }", "["+want+` TYPE "1", `+want+" TYPE "+want+", "+want+" TYPE "+want+", "+want+" ?c "+want+", "+want+" ?d "+want+"]")
			shows(t, "{ VALUES ?a { "+s+" 1 "+s+" } }", "values(?a "+want+` "1" `+want+")")
			u, e, _ := changed(t, prefixes+"INSERT DATA { "+s+" <b> 1, "+s+" }")
			if got := stepped(u.Ins); e != api.OK || got != want+` <b> "1", `+want+" <b> "+want {
				fault(t, "P1403: %s: %s %v", clip(s), clip(got), e)
			}
			q, e, _ := asked(t, prefixes+"CONSTRUCT { "+s+" ?b "+s+" } { }")
			if got := stepped(q.Build); e != api.OK || got != want+" ?b "+want {
				fault(t, "P1402: %s: %s %v", clip(s), clip(got), e)
			}
		}
	}
	for _, l := range []map[string]string{unsigned, iris()} {
		for s, want := range l {
			shows(t, "{ FILTER("+s+") }", "filter([] "+want+")")
			shows(t, "{ FILTER(- "+s+" = ! "+s+" + STR("+s+")) }", "filter([] eq(neg("+want+") add(not("+want+") str("+want+"))))")
			shows(t, "{ BIND("+s+" AS ?a) }", "bind([] "+want+" ?a)")
		}
	}
	for s, want := range iris() {
		shows(t, "{ ?a "+s+" ?c }", "[?a "+want+" ?c]")
		shows(t, "{ ?a "+s+"/ ^"+s+"| ( "+s+" ) * ?c }", "[?a alt(seq("+want+" inv("+want+")) star("+want+")) ?c]")
	}
}

// misfits are terms that may not be, and Check's error of each.
func misfits() map[string]api.Errno {
	return map[string]api.Errno{
		"<>": api.ErrArg, "e:": api.ErrArg, "<" + x(61) + ">": api.ErrLong, "<" + strings.Repeat("é", 31) + ">": api.ErrLong, "p:" + x(59): api.ErrLong, "l:": api.ErrLong, "l:b": api.ErrLong, // IRIs first
		"'" + x(61) + "'": api.ErrLong, "'" + x(61) + "'@en": api.ErrLong, "'" + x(61) + "'^^<b>": api.ErrLong, "'c'@abcdefghi": api.ErrLong, "'c'^^<" + x(61) + ">": api.ErrLong, "'c'^^l:": api.ErrLong, "'c'^^p:" + x(59): api.ErrLong, strings.Repeat("9", 61): api.ErrLong, strings.Repeat("9", 58) + ".99": api.ErrLong,
		"+" + strings.Repeat("9", 61): api.ErrLong, "-" + strings.Repeat("9", 60): api.ErrLong, "- " + strings.Repeat("9", 57) + ".25": api.ErrLong, // signed ones last
	}
}

// TestMisfits: told as they come, whatever is behind them.
func TestMisfits(t *testing.T) {
	tails := []string{"", " }", " ?", " x:y", " <> }", " ((((((((((("}
	for s, want := range misfits() {
		iri, sign := s[0] == '<' || s[1] == ':', s[0] == '+' || s[0] == '-'
		for _, tail := range tails {
			for _, front := range []string{"ASK { ", "ASK { ?a <b> ", "ASK { ?a a 1 , ", "ASK { ?a <b> 1 ; ?c ", "ASK { { } UNION { ?a <b> 1 . ", "ASK { VALUES ?a { ", "ASK { VALUES ?a { 1 ", "CONSTRUCT { ", "CONSTRUCT { ?a ?b "} {
				refuses(t, prefixes+front+s+tail, want)
			}
			for _, front := range []string{"INSERT DATA { ", "INSERT DATA { <a> <b> 1, ", "DELETE DATA { <a> <b> 1, ", "DELETE { ", "INSERT { ?a ?b ", "DELETE { } INSERT { ", "DELETE { } WHERE { ?a <b> "} {
				rejects(t, prefixes+front+s+tail, want)
			}
			for _, front := range []string{"ASK { FILTER(", "ASK { FILTER(1 + ", "ASK { FILTER(-", "ASK { FILTER(!", "ASK { FILTER(STR(", "ASK { FILTER(IF(1, ", "ASK { BIND("} {
				switch {
				case !sign:
					refuses(t, prefixes+front+s+tail, want)
				case s[0] == '+':
					refuses(t, prefixes+front+s+tail, api.ErrWord)
				}
			}
			if !iri {
				continue
			}
			for _, front := range []string{"ASK { ?a ", "ASK { ?a <b> 1 ; ", "ASK { ?a ^", "ASK { ?a <b>/", "ASK { ?a a|", "ASK { ?a (", "CONSTRUCT { ?a ", "CONSTRUCT { ?a <b>/"} {
				refuses(t, prefixes+front+s+tail, want)
			}
			for _, front := range []string{"INSERT DATA { <a> ", "DELETE { ?a ", "INSERT { ?a (", "DELETE DATA { <a> <b> 1 ; "} {
				rejects(t, prefixes+front+s+tail, want)
			}
		}
	}
	shows(t, "{ FILTER(-"+strings.Repeat("9", 60)+") }", "filter([] neg(\""+strings.Repeat("9", 60)+"\"))")
	refuses(t, prefixes+"ASK { }", api.OK) // what is not a term yet is not looked at
	refuses(t, "PREFIX p: <"+x(1000)+"> ASK { }", api.OK)
	refuses(t, "PREFIX p: <"+x(1000)+"> ASK { p: <b> 1 }", api.ErrLong)
}

// variables are fronts and tails of texts between which one may stand.
func variables() [][2]string {
	return [][2]string{
		{"ASK { ", " <b> 1 }"}, {"ASK { ?a ", " 1 }"}, {"ASK { ?a <b> ", " }"}, {"ASK { ?a <b> 1, ", " }"}, {"ASK { ?a <b> 1; ", " 1 }"}, {"ASK { ?a <b> 1 . ", " <b> 1 }"}, {"ASK { FILTER(", ") }"}, {"ASK { FILTER(1 + ", ") }"}, {"ASK { FILTER(-", ") }"}, {"ASK { FILTER((", ")) }"}, {"ASK { FILTER(BOUND(", ")) }"}, {"ASK { FILTER(STR(", ")) }"}, {"ASK { FILTER(COALESCE(1, ", ")) }"}, {"ASK { BIND(1 AS ", ") }"}, {"ASK { BIND(", " AS ?z) }"}, {"ASK { VALUES ", " { } }"},
		{"SELECT ", " { }"}, {"SELECT ?a ", " { }"}, {"SELECT (COUNT(", ") AS ?n) { }"}, {"SELECT (MIN(DISTINCT ", ") AS ?n) { }"}, {"SELECT (COUNT(*) AS ", ") { }"}, {"SELECT ?v { } GROUP BY ?v ", ""}, {"SELECT (COUNT(*) AS ?n) { } GROUP BY ", ""}, {"SELECT * { } ORDER BY ", ""}, {"SELECT * { } ORDER BY ?a ", ""}, {"SELECT * { } ORDER BY ASC(", ")"}, {"SELECT * { } ORDER BY DESC(", ")"},
		{"CONSTRUCT { ", " <b> 1 } { }"}, {"CONSTRUCT { ?a ", " 1 } { }"}, {"CONSTRUCT { ?a <b> ", " } { }"},
		{"DELETE { ", " <b> 1 } WHERE { }"}, {"DELETE { <a> <b> ", " } WHERE { }"}, {"INSERT { <a> ", " 1 } WHERE { }"}, {"INSERT { <a> <b> ", " } WHERE { }"}, {"DELETE { } WHERE { <a> ", " <b> }"}, {"DELETE { } INSERT { <a> <b> 1 ; <c> ", " } WHERE { }"},
	}
}

// TestVariables: names of 12 bytes and 13, at every place.
func TestVariables(t *testing.T) {
	check := func(s string, want api.Errno) {
		t.Helper()
		if s[0] == 'D' || s[0] == 'I' {
			rejects(t, s, want)
		} else {
			refuses(t, s, want)
		}
	}
	for _, p := range variables() {
		for _, v := range []string{"?A", "$x", "?x_1", "?" + x(12), "$" + x(11) + "_", "?x23456789012"} {
			check(p[0]+v+p[1], api.OK)
		}
		for _, v := range []string{"?" + x(13), "$" + x(13), "?x234567890123", "?" + x(3000)} {
			check(p[0]+v+p[1], api.ErrLong)
			check(p[0]+v, api.ErrLong)
			check(p[0]+v+" ! x:y", api.ErrLong)
		}
		for _, v := range []string{"$", "$1", "$_x", "w", "@en", "=", "]", "UNION", "_"} {
			check(p[0]+v+" "+p[1], api.ErrWord)
		}
	}
	for _, s := range []string{"INSERT DATA { ?" + x(13), "DELETE DATA { <a> ?" + x(13), "INSERT DATA { <a> <b> ?" + x(13) + " }"} {
		rejects(t, s, api.ErrLong) // ahead of that it may not stand there
	}
	means(t, "{ ?x ?X ?x_ }", "[?x ?X ?x_]")
}

// TestBlanks: none but in what is built and comes.
func TestBlanks(t *testing.T) {
	for _, b := range []string{"_:b", "_:1", "_:_", "_:" + x(20), "_:" + x(21), "_:" + x(61)} {
		for _, tail := range []string{"", " }", " <b> 1 }", " , 1 }", " ?", " x:y"} {
			for _, s := range []string{"{ ", "{ ?a <b> ", "{ ?a <b> 1 , ", "{ ?a <b> 1 ; <c> ", "{ ?a <b> 1 . ", "{ ?a <b>* ", "{ { } ", "{ OPTIONAL { ", "{ { } UNION { ", "{ FILTER(1) . "} {
				bad(t, s+b+tail, api.ErrMiss)
			}
			for _, s := range []string{"{ ?a ", "{ ?a <b> 1 ; <c>/", "{ ?a ^", "{ ?a (", "{ ?a <b>| ", "{ VALUES ", "{ VALUES ?a ", "{ VALUES ?a { ", "{ FILTER(", "{ FILTER ", "{ FILTER(-", "{ FILTER(1 + ", "{ FILTER(STR(", "{ FILTER(BOUND(", "{ BIND(", "{ BIND(1 AS ", "{ OPTIONAL ", "{ { } UNION ", "{ ?a <b> - ", "{ ?a <b> 'c'^^"} {
				none(t, s+b+tail)
			}
			for _, s := range []string{"DELETE { ", "DELETE { ?a ?b ", "DELETE { <a> <b> 1, ", "DELETE { <a> <b> 1 . ", "DELETE DATA { ", "DELETE DATA { <a> <b> ", "DELETE DATA { <a> a 5 ; <c> "} {
				rejects(t, s+b+tail, api.ErrMiss)
			}
			for _, s := range []string{"DELETE { <a> ", "DELETE DATA { <a> ", "INSERT { <a> ", "INSERT DATA { <a> ", "INSERT { ?a ^", "INSERT ", "DELETE ", "CLEAR "} {
				rejects(t, s+b+tail, api.ErrWord)
			}
			for _, s := range []string{"SELECT ", "SELECT (COUNT(", "SELECT * { } GROUP BY ", "SELECT * { } ORDER BY ", "SELECT * { } LIMIT ", "CONSTRUCT { ?a ", "CONSTRUCT ", "ASK ", ""} {
				refuses(t, s+b+tail, api.ErrWord)
			}
		}
	}
	for b, want := range map[string]api.Errno{"_:" + x(20): api.OK, "_:1_a": api.OK, "_:" + x(21): api.ErrArg, "_:" + x(60): api.ErrArg, "_:" + x(61): api.ErrLong} {
		for _, s := range []string{b + " <b> 1", "<a> <b> " + b, b + " ?c " + b, "?a <b> 1, " + b, "?a <b> 1 . " + b + " a 2 ."} {
			refuses(t, "CONSTRUCT { "+s+" } { }", want)
			rejects(t, "INSERT { "+s+" } WHERE { }", want)
			rejects(t, "DELETE { ?a <b> ?c } INSERT { "+s+" } WHERE { }", want)
		}
		rejects(t, "INSERT DATA { "+b+" <b> 1 }", want)
		rejects(t, "INSERT DATA { <a> <b> 1, "+b+" }", want)
	}
	refuses(t, "CONSTRUCT { _:a <b> _:a } { _:a <b> _:a }", api.ErrMiss)
	rejects(t, "INSERT { _:a <b> _:a } WHERE { _:a <b> _:a }", api.ErrMiss)
}

func TestPrefix(t *testing.T) {
	for s, want := range map[string]string{
		"PREFIX p: <q#> ASK { p:a p:b p: }": "[<q#a> <q#b> <q#>]", "PREFIX : <q#> ASK { :a :b : }": "[<q#a> <q#b> <q#>]", "prefix p: <q#> Prefix : <r#> pReFiX p-q_1: <s#> ASK { p:a :b p-q_1:c }": "[<q#a> <r#b> <s#c>]",
		"PREFIX p: <a> PREFIX p: <b> ASK { p:c p:d p:e }": "[<bc> <bd> <be>]", "PREFIX p: <a> PREFIX P: <b> ASK { p:c P:d p:e }": "[<ac> <bd> <ae>]", "PREFIX p: <../a/./b/../> ASK { p:c p:../d p: }": "", "PREFIX p: <../a/./b/../> ASK { p:c p:..d p: }": "[<../a/./b/../c> <../a/./b/../..d> <../a/./b/../>]", "PREFIX p: <> ASK { p:a p:b p:c }": "[<a> <b> <c>]",
		"PREFIX PREFIX: <a> ASK { PREFIX:b a PREFIX: }": "[<ab> TYPE <a>]", "PREFIX ASK: <a> ASK { ASK:b ASK:ASK ASK: }": "[<ab> <aASK> <a>]", "PREFIX a: <b> ASK { a:a a a: }": "[<ba> TYPE <b>]", "PREFIX p: <http://x/y?z=> ASK { p:1 p:- 'v'^^p:2 }": "[<http://x/y?z=1> <http://x/y?z=-> \"v\"^^<http://x/y?z=2>]",
	} {
		if want == "" {
			refuses(t, s, api.ErrWord)
			continue
		}
		q, e, _ := asked(t, s)
		if got := pattern(q.Where); e != api.OK || got != want {
			fault(t, "P1402: %s: %s %v, not %s", s, got, e, want)
		}
	}
	front := "PREFIX p: <q#> prefix : <> "
	for _, s := range []string{"SELECT * {}", "ASK {}", "CONSTRUCT { p:a :b p:c } { }"} {
		q, e, _ := asked(t, front+s)
		r, _, _ := asked(t, strings.NewReplacer("p:a", "<q#a>", ":b", "<b>", "p:c", "<q#c>").Replace(s))
		if e != api.OK || !same(q, r) {
			fault(t, "P1402: %s: %s %v", s, tell(q), e)
		}
		refuses(t, front+s+" PREFIX p: <q#>", api.ErrWord)
	}
	for _, s := range []string{"CLEAR", "INSERT DATA { p:a :b p:c }", "DELETE DATA { p:a :b p:c }", "DELETE { p:a :b p:c } WHERE { p:a :b p:c }", "INSERT { p:a :b p:c } WHERE { }"} {
		u, e, _ := changed(t, front+s)
		v, _, _ := changed(t, strings.NewReplacer("p:a", "<q#a>", ":b", "<b>", "p:c", "<q#c>").Replace(s))
		if e != api.OK || !same(u, v) {
			fault(t, "P1403: %s: %s %v", s, tell(u), e)
		}
		rejects(t, front+s+" PREFIX p: <q#>", api.ErrWord)
	}
	for _, s := range []string{"PREFIX", "PREFIX p:", "PREFIX <q>", "PREFIX p <q>", "PREFIX p:b <q>", "PREFIX :b <q>", "PREFIX p: p:", "PREFIX p: 'q'", "PREFIX p: ?q", "PREFIX 'p:' <q>", "PREFIX p: <q> .", "PREFIX p: <q> ,", "PREFIX p: <q> r: <s>", "PREFIX PREFIX p: <q>", "@prefix p: <q> .", "@prefix p: <q>", "BASE <q>", "PREFIX p: = <q>", "'PREFIX' p: <q>", "PREFIX ?p: <q>", "PREFIX _: <q>", "PREFIX 5: <q>"} {
		refuses(t, s, api.ErrWord)
		refuses(t, s+" ASK { }", api.ErrWord)
		rejects(t, s+" CLEAR", api.ErrWord)
	}
	refuses(t, "PREFIX p: <q>", api.ErrWord)
	rejects(t, "PREFIX p: <q>", api.ErrWord)
}

// TestNoPrefix: names whose prefix there is none, at every place of an IRI.
func TestNoPrefix(t *testing.T) {
	for _, n := range []string{"x:y", "x:", ":", ":y", "P:y", "pp:", "a:b", "true:", "ASK:"} {
		for _, s := range []string{"{ ", "{ ?a ", "{ ?a <b> ", "{ ?a ^", "{ ?a <b>/", "{ ?a (", "{ ?a <b> 1, ", "{ ?a <b> 1; ", "{ ?a <b> 1 . ", "{ ?a <b> 'c'^^", "{ VALUES ?a { ", "{ VALUES ?a { 'c'^^", "{ FILTER(", "{ FILTER(1 + ", "{ FILTER(-", "{ FILTER(STR(", "{ FILTER('c'^^", "{ BIND("} {
			for _, tail := range []string{"", " }", " ?", " <>", " x:y ((((((((((("} {
				refuses(t, "PREFIX p: <q> ASK "+s+n+tail, api.ErrName)
				rejects(t, "PREFIX p: <q> INSERT { } WHERE "+s+n+tail, api.ErrName)
			}
		}
		refuses(t, "PREFIX p: <q> CONSTRUCT { ?a <b> "+n, api.ErrName)
		rejects(t, "PREFIX p: <q> INSERT DATA { "+n, api.ErrName)
		rejects(t, "PREFIX p: <q> DELETE DATA { <a> <b> 1, "+n, api.ErrName)
		rejects(t, "PREFIX p: <q> DELETE { ?a "+n, api.ErrName)
		refuses(t, "PREFIX p: <q> "+n, api.ErrWord) // no IRI stands here
		refuses(t, "PREFIX p: <q> SELECT "+n, api.ErrWord)
		refuses(t, "PREFIX p: <q> ASK { } "+n, api.ErrWord)
		refuses(t, "PREFIX p: <q> ASK { ?a <b> - "+n, api.ErrWord)
		refuses(t, "PREFIX p: <q> ASK { VALUES "+n, api.ErrWord)
		refuses(t, "PREFIX p: <q> ASK { FILTER("+n, api.ErrName)
		refuses(t, "PREFIX p: <q> ASK { FILTER(BOUND("+n, api.ErrWord)
	}
}

// TestCase: words are in letters of either case, but 'a', 'true', 'false'.
func TestCase(t *testing.T) {
	for _, s := range []string{
		"PREFIX P: <Q> SELECT DISTINCT ?A (COUNT(DISTINCT ?B) AS ?N) (SUM(?B) AS ?S) (MIN(?B) AS ?I) (MAX(?B) AS ?J) (AVG(?B) AS ?K) WHERE { ?A P:B ?B } GROUP BY ?A ORDER BY ASC(?A) DESC(?N) LIMIT 1 OFFSET 2", "CONSTRUCT { } WHERE { }",
		"ASK { OPTIONAL { } MINUS { } { } UNION { } BIND(1 AS ?A) VALUES ?A { } FILTER(BOUND(?A)) FILTER(STR(1)) FILTER(LANG(1)) FILTER(DATATYPE(1)) FILTER(STRLEN(1)) FILTER(ISIRI(1)) FILTER(ISBLANK(1)) FILTER(ISLITERAL(1)) FILTER(CONTAINS(1, 2)) FILTER(SAMETERM(1, 2)) FILTER(IF(1, 2, 3)) FILTER(COALESCE(1)) }",
		"CLEAR", "INSERT DATA { }", "DELETE DATA { }", "DELETE { } INSERT { } WHERE { }",
	} {
		want, e, _ := asked(t, s)
		other, f, _ := changed(t, s)
		if e != api.OK && f != api.OK {
			fault(t, "P1402: %s: %v, %v", s, e, f)
		}
		for first := range 4 { // each letter of a word in either case
			low := []byte(s)
			for i, c := range low {
				name := i > 0 && strings.IndexByte("?<", low[i-1]) >= 0 || s[(i+1)%len(s)] == ':' || i > 0 && s[i-1] == ':'
				if c >= 'A' && c <= 'Z' && !name && (first == 0 || first == 1 && i%2 == 0 || first == 2 && i%2 == 1 || first == 3 && i%3 == 0) {
					low[i] += 'a' - 'A'
				}
			}
			q, e2, _ := asked(t, string(low))
			u, f2, _ := changed(t, string(low))
			if e != e2 || f != f2 || !same(q, want) || !same(u, other) {
				fault(t, "P1402: %s: %s %v, %s %v", low, tell(q), e2, tell(u), f2)
			}
		}
	}
	none(t, "{ ?a A ?b }", "{ ?a <b>/A ?c }", "{ ?a (A) ?b }", "{ ?a ^A ?b }", "{ ?a <b> True }", "{ ?a <b> TRUE }", "{ ?a <b> False }", "{ ?a <b> falsE }", "{ TRUE <b> ?c }", "{ VALUES ?a { True } }", "{ VALUES ?a { FALSE } }", "{ VALUES ?a { a } }", "{ FILTER(True) }", "{ FILTER(FALSE) }", "{ FILTER(a) }", "{ FILTER(A) }", "{ FILTER(tru) }", "{ FILTER(truee) }", "{ ?a aa ?b }", "{ ?a rdf ?b }")
	for _, s := range []string{"ASKK { }", "AS { }", "ASK_ { }", "SELECTT * { }", "SELEC * { }", "SELECT DISTINC * { }", "SELECT * WHER { }", "SELECT * WHEREE { }", "SELECT REDUCED * { }", "DESCRIBE * { }", "CONSTRUC { } { }", "'ASK' { }", "<ASK> { }", "ASK: { }", "?ASK { }", "_:ASK { }", "@ask { }"} {
		refuses(t, s, api.ErrWord)
		rejects(t, s, api.ErrWord)
	}
}

// P1401: ways

func TestWays(t *testing.T) {
	for s, want := range map[string]string{
		"<b>": "<b>", "(<b>)": "<b>", "((<b>))": "<b>", "a": "TYPE", "(a)": "TYPE", "^<b>": "inv(<b>)", "^a": "inv(TYPE)", "^(<b>)": "inv(<b>)", "(^<b>)": "inv(<b>)", "<b>*": "star(<b>)", "<b>+": "plus(<b>)", "<b>?": "opt(<b>)", "a*": "star(TYPE)", "(<b>)*": "star(<b>)", "(<b>*)": "star(<b>)",
		"^<b>*": "inv(star(<b>))", "^<b>+": "inv(plus(<b>))", "^<b>?": "inv(opt(<b>))", "(^<b>)*": "star(inv(<b>))", "^(<b>)*": "inv(star(<b>))", "^(<b>*)": "inv(star(<b>))", "^(<b>*)+": "inv(plus(star(<b>)))", "^(^<b>)": "inv(inv(<b>))", "^(^<b>*)*": "inv(star(inv(star(<b>))))", "(<b>*)*": "star(star(<b>))", "((<b>?)+)*": "star(plus(opt(<b>)))",
		"<b>/<c>": "seq(<b> <c>)", "<b>/<c>/<d>": "seq(<b> <c> <d>)", "<b>/<b>": "seq(<b> <b>)", "(<b>/<c>)": "seq(<b> <c>)", "(<b>/<c>)/<d>": "seq(seq(<b> <c>) <d>)", "<b>/(<c>/<d>)": "seq(<b> seq(<c> <d>))", "(<b>)/(<c>)": "seq(<b> <c>)", "<b>*/<c>+/<d>?": "seq(star(<b>) plus(<c>) opt(<d>))", "^<b>/^<c>": "seq(inv(<b>) inv(<c>))", "^(<b>/<c>)": "inv(seq(<b> <c>))", "(<b>/<c>)*": "star(seq(<b> <c>))", "a/a": "seq(TYPE TYPE)",
		"<b>|<c>": "alt(<b> <c>)", "<b>|<c>|<d>": "alt(<b> <c> <d>)", "(<b>|<c>)|<d>": "alt(alt(<b> <c>) <d>)", "<b>|(<c>|<d>)": "alt(<b> alt(<c> <d>))", "(<b>|<c>)": "alt(<b> <c>)", "^<b>|<c>*": "alt(inv(<b>) star(<c>))", "^(<b>|<c>)": "inv(alt(<b> <c>))", "(<b>|<c>)?": "opt(alt(<b> <c>))",
		"<b>/<c>|<d>": "alt(seq(<b> <c>) <d>)", "<b>|<c>/<d>": "alt(<b> seq(<c> <d>))", "<b>/<c>|<d>/<e>": "alt(seq(<b> <c>) seq(<d> <e>))", "(<b>|<c>)/<d>": "seq(alt(<b> <c>) <d>)", "<b>/(<c>|<d>)": "seq(<b> alt(<c> <d>))", "<b>|<c>/<d>|<e>": "alt(<b> seq(<c> <d>) <e>)", "<b>/<c>|<d>|^<e>/a+": "alt(seq(<b> <c>) <d> seq(inv(<e>) plus(TYPE)))", "((<b>|<c>)/<d>|<e>)*": "star(alt(seq(alt(<b> <c>) <d>) <e>))",
	} {
		for _, loose := range []bool{false, true} {
			if loose {
				s = strings.Join(strings.SplitAfter(strings.NewReplacer("^", "^ ", "(", "( ", ")", " )", "*", " *", "+", " +", "?", " ?", "|", " | ", "/", " / ").Replace(s), " "), "\n")
			}
			means(t, "{ ?x "+s+" ?y }", "[?x "+want+" ?y]")
			means(t, "{ ?x "+s+" 1 , 2 ; <z> 3 ; "+s+" 4 . 5 "+s+" 6 . }", "[?x "+want+` "1", ?x `+want+` "2", ?x <z> "3", ?x `+want+` "4", "5" `+want+` "6"]`)
			// what is built, comes and goes has none but such as are one IRI
			single, e := strings.HasPrefix(want, "<") || want == "TYPE", api.ErrMiss
			if single {
				e = api.OK
			}
			refuses(t, "CONSTRUCT { ?x "+s+" ?y } { }", e)
			for _, place := range []string{"INSERT { <x> ", "DELETE { <x> ", "INSERT DATA { <x> ", "DELETE DATA { <x> "} {
				where := " WHERE { }"
				if strings.Contains(place, "DATA") {
					where = ""
				}
				rejects(t, place+s+" 1 }"+where, e)
				rejects(t, place+"<b> 1 ; "+s+" 1 }"+where, e)
				if !single {
					rejects(t, place+s+" ", e) // behind the whole way
					rejects(t, place+s+" ! }", e)
					rejects(t, place+s+" x:y }", e)
					rejects(t, place+s+" _:y }", e)
				}
			}
		}
	}
	for _, s := range []string{"", "^", "/", "|", "()", "(", ")", "<b>)", "(<b>", "(<b>))", "^^<b>", "^ ^<b>", "<b>^", "<b>**", "<b>*+", "<b>+*", "<b> * ?", "*", "+<b>", "?<b>", "*<b>", "<b>/", "/<b>", "<b>//<c>", "<b>|", "|<b>", "<b>||<c>", "<b> | | <c>", "<b>/|<c>", "<b>|/<c>", "!<b>", "!(<b>|<c>)", "?x/<b>", "<b>/?x", "?x*", "^?x", "(?x)", "<b>|?x", "<b>/_:c", "<b>/'c'", "<b>/5", "'b'*", "<b>{1}", "<b>/^", "(<b>/)", "(|<b>)", "<b>/w", "w*", "(a", "a)", "<b>/true", "<b>.<c>", "<b>,<c>", "<b>;<c>", "<b> <c>", "((<b>)", "^(", "(^)", "[<b>]"} {
		none(t, "{ ?x "+s+" ?y }", "{ ?x <b> 1; "+s+" ?y }")
	}
	for _, s := range []string{"<b>/x:y", "(<b>|x:y", "^x:y", "<b>*/x:", "((x:y"} { // what is within goes ahead
		refuses(t, "CONSTRUCT { ?x "+s, api.ErrName)
		rejects(t, "INSERT DATA { <x> "+s, api.ErrName)
		rejects(t, "DELETE { <x> "+s, api.ErrName)
	}
	for _, s := range []string{"<b>/", "<b>/ }", "^", "(<b>", "(<b>*", "<b>|?x", "(<b>/<c>", "<b>/_:c", "^^<b>"} {
		refuses(t, "CONSTRUCT { ?x "+s, api.ErrWord)
		rejects(t, "INSERT DATA { <x> "+s, api.ErrWord)
		rejects(t, "DELETE { <x> "+s, api.ErrWord)
	}
	rejects(t, "INSERT DATA { ?x <b>/<c> 1 }", api.ErrScope)
	rejects(t, "INSERT DATA { <x> <b>/<c> ?y }", api.ErrMiss)
	rejects(t, "DELETE { _:x <b>/<c> 1 }", api.ErrMiss)
}

// P1401: expressions

// reckons tells faults where an expression is not this in short, in a FILTER and in a BIND.
func reckons(t *testing.T, s, want string) {
	t.Helper()
	means(t, "{ FILTER("+s+") }", "filter([] "+want+")")
	means(t, "{ ?x <y> ?z BIND("+s+" AS ?n) }", "bind([?x <y> ?z] "+want+" ?n)")
}

// misreads is of what is no expression.
func misreads(t *testing.T, l ...string) {
	t.Helper()
	for _, s := range l {
		none(t, "{ FILTER("+s+") }", "{ BIND("+s+" AS ?n) }")
	}
}

// binary are the operators between two: how tightly each binds, and its word in short.
var binary = map[string]struct {
	level int
	word  string
}{"||": {1, "or"}, "&&": {2, "and"}, "=": {3, "eq"}, "!=": {3, "ne"}, "<": {3, "lt"}, "<=": {3, "le"}, ">": {3, "gt"}, ">=": {3, "ge"}, "+": {4, "add"}, "-": {4, "sub"}, "*": {5, "mul"}}

func TestExpressions(t *testing.T) {
	for s, want := range map[string]string{
		"?a": "?a", "$a": "?a", "5": `"5"`, "5.0": `"5.0"d`, "true": `"true"b`, "'x'": `"x"s`, "'x'@en": `"x"@en`, "'x'^^<y>": `"x"^^<y>`, "<a>": "<a>", "(?a)": "?a", "((?a))": "?a", "(((5)))": `"5"`,
		"!?a": "not(?a)", "-?a": "neg(?a)", "-5": `neg("5")`, "- 5.0": `neg("5.0"d)`, "!true": `not("true"b)`, "!(?a)": "not(?a)", "-(-5)": `neg(neg("5"))`, "!(!true)": `not(not("true"b))`, "-(!?a)": "neg(not(?a))", "!(-?a)": "not(neg(?a))", "(-5)": `neg("5")`, "-<a>": "neg(<a>)", "-'x'": `neg("x"s)`, "!BOUND(?a)": "not(bound(?a))", "-STRLEN(?a)": "neg(len(?a))",
		"1 + 2 - 3 * 4": `sub(add("1" "2") mul("3" "4"))`, "1 - 2 + 3": `add(sub("1" "2") "3")`, "1 * 2 + 3 * 4": `add(mul("1" "2") mul("3" "4"))`, "1 * (2 + 3) * 4": `mul(mul("1" add("2" "3")) "4")`, "(1 + 2) * 3": `mul(add("1" "2") "3")`, "1 - (2 - 3)": `sub("1" sub("2" "3"))`,
		"1 - -2": `sub("1" neg("2"))`, "1--2": `sub("1" neg("2"))`, "1 + -2": `add("1" neg("2"))`, "1 * -2": `mul("1" neg("2"))`, "-1 + 2": `add(neg("1") "2")`, "-1 * 2": `mul(neg("1") "2")`, "1 -2": `sub("1" "2")`, "1-2": `sub("1" "2")`, "1 +2": `add("1" "2")`, "?a-?b": "sub(?a ?b)", "1 - !2": `sub("1" not("2"))`, "!1 - 2": `sub(not("1") "2")`, "-1 = -2": `eq(neg("1") neg("2"))`, "!?a = ?b": "eq(not(?a) ?b)", "!(?a = ?b)": "not(eq(?a ?b))",
		"1 = 2": `eq("1" "2")`, "(1 = 2) = 3": `eq(eq("1" "2") "3")`, "1 = (2 = 3)": `eq("1" eq("2" "3"))`, "1 + 2 = 3 * 4": `eq(add("1" "2") mul("3" "4"))`, "?a = ?b && ?c = ?d": "and(eq(?a ?b) eq(?c ?d))", "?a < ?b || ?c >= ?d": "or(lt(?a ?b) ge(?c ?d))", "?a<?b": "lt(?a ?b)", "?a<?b||?c>?d": "or(lt(?a ?b) gt(?c ?d))", "?a<?b>?c": "", "?a<?b && ?c>?d": "and(lt(?a ?b) gt(?c ?d))", "?a<5*?b||6>?d": "or(lt(?a mul(\"5\" ?b)) gt(\"6\" ?d))",
		"?a || ?b || ?c": "or(or(?a ?b) ?c)", "?a && ?b && ?c": "and(and(?a ?b) ?c)", "?a || ?b && ?c": "or(?a and(?b ?c))", "?a && ?b || ?c": "or(and(?a ?b) ?c)", "?a || ?b && ?c || ?d": "or(or(?a and(?b ?c)) ?d)", "(?a || ?b) && ?c": "and(or(?a ?b) ?c)", "?a || (?b || ?c)": "or(?a or(?b ?c))", "?a && !?b": "and(?a not(?b))",
		"!?a || -?b + 1 * 2 < 3 && true": `or(not(?a) and(lt(add(neg(?b) mul("1" "2")) "3") "true"b))`,
	} {
		if want == "" { // a TIri
			misreads(t, s)
			continue
		}
		reckons(t, s, want)
	}
	misreads(t, "", "()", "1 +", "+ 1", "+1", "1 + + 2", "1 + +2", "1 * + 2", "* 1", "1 *", "1 * * 2", "1 / 2", "/ 1", "!", "-", "! !true", "!!true", "- -1", "--1", "!-1", "-!1", "! - ! 1", "1 - - - 2", "1 - --2", "1 !", "1 ! 2", "!= 1", "1 = = 2", "1 == 2", "1 = != 2", "1 < = 2", "1 ! = 2", "1 = 2 = 3", "1 = 2 != 3", "1 < 2 < 3", "1 < 2 = 3", "1 >= 2 <= 3", "1 = 2 + 3 = 4", "1 = 2 && 3 = 4 = 5", "|| 1", "1 ||", "1 | | 2", "1 | 2", "1 && && 2", "&& 1", "1 && || 2", "1 ^ 2", "1 , 2", "1 ; 2", "1 . 2", "1 ? 2", "1 2", "?a ?b", "?a 1", "(1) (2)", "(1", "1)", "((1)", "(1))", ")", "( )", "(1 + )", "(, 1)", "[ 1 ]", "{ 1 }", "a", "True", "w", "w(1)", "AND", "?a AND ?b", "?a OR ?b", "NOT ?a", "?a IN (1)", "'x'@en@en", "'x'^^", "'x'^^?a", "5@en", "@en", "_:a", "?", "SELECT", "AS", "DISTINCT ?a", "COUNT(*)", "COUNT(?a)", "SUM(?a)", "* ", "<a>(1)", "?a(1)", "?a AS", "EXISTS { }", "NOW()", "REGEX('a', 'b')")
	bad(t, "{ FILTER(x:y(1)) }", api.ErrName)
	none(t, "{ FILTER }", "{ FILTER ?a }", "{ FILTER BOUND(?a) }", "{ FILTER 1 }", "{ FILTER { } }", "{ FILTER(1 }", "{ FILTER 1) }", "{ FILTER(1) AS ?a }", "{ FILTER(1 AS ?a) }", "{ FILTER(1), FILTER(2) }", "{ FILTER FILTER(1) }", "{ FILTER(1)) }")
}

// TestBinds: which of two operators binds more, and that one goes from the left on.
func TestBinds(t *testing.T) {
	two := func(op, a, b string) string { return binary[op].word + "(" + a + " " + b + ")" }
	for p, a := range binary {
		reckons(t, "1 "+p+" 2", two(p, `"1"`, `"2"`))
		reckons(t, "-1 "+p+" -2", two(p, `neg("1")`, `neg("2")`))
		reckons(t, "!1 "+p+" !2", two(p, `not("1")`, `not("2")`))
		misreads(t, "1 "+p, "1 "+p+" "+p+" "+p+" 2", "1 "+p+" )", "1 "+p+" , 2")
		if p != "-" {
			misreads(t, p+"1", p+" 1", "1 "+p+" "+p+" 2")
		}
		for q, b := range binary {
			s := "?a " + p + " ?b " + q + " ?c"
			left, right := two(q, two(p, "?a", "?b"), "?c"), two(p, "?a", two(q, "?b", "?c"))
			reckons(t, "(?a "+p+" ?b) "+q+" ?c", left)
			reckons(t, "?a "+p+" (?b "+q+" ?c)", right)
			switch {
			case a.level == 3 && b.level == 3:
				misreads(t, s)
			case a.level >= b.level:
				reckons(t, s, left)
			default:
				reckons(t, s, right)
			}
			for r, c := range binary {
				s := s + " " + r + " ?d"
				var want string
				switch {
				case a.level == 3 && b.level == 3, b.level == 3 && c.level == 3, a.level == 3 && c.level == 3 && b.level > 3:
					misreads(t, s)
					continue
				case a.level >= b.level && b.level >= c.level:
					want = two(r, left, "?d")
				case a.level >= b.level && a.level >= c.level: // b < c
					want = two(q, two(p, "?a", "?b"), two(r, "?c", "?d"))
				case a.level >= b.level: // b <= a < c
					want = two(q, two(p, "?a", "?b"), two(r, "?c", "?d"))
				case b.level >= c.level && a.level >= c.level: // a < b
					want = two(r, right, "?d")
				case b.level >= c.level: // a < c <= b
					want = two(p, "?a", two(r, two(q, "?b", "?c"), "?d"))
				default: // a < b < c
					want = two(p, "?a", two(q, "?b", two(r, "?c", "?d")))
				}
				reckons(t, s, want)
			}
		}
	}
}

// calls are the words of calls, how many each is of, and its word in short.
var calls = map[string]struct {
	n    int
	word string
}{"STR": {1, "str"}, "LANG": {1, "lang"}, "DATATYPE": {1, "type"}, "STRLEN": {1, "len"}, "ISIRI": {1, "isiri"}, "ISBLANK": {1, "isblank"}, "ISLITERAL": {1, "islit"}, "CONTAINS": {2, "has"}, "SAMETERM": {2, "same"}, "IF": {3, "if"}}

// row is so many times a text, with something between.
func row(s, between string, n int) string {
	return strings.TrimSuffix(strings.Repeat(s+between, n), between)
}

func TestCalls(t *testing.T) {
	for w, c := range calls {
		for s, want := range map[string]string{"?a": "?a", "1": `"1"`, "-1": `neg("1")`, "1 + 2 = 3 || ?b": `or(eq(add("1" "2") "3") ?b)`, "(1)": `"1"`, "STR(?b)": "str(?b)", "IF(1, 2, 3)": `if("1" "2" "3")`, "<a>": "<a>", "'x'@en": `"x"@en`} {
			for _, low := range []string{w, strings.ToLower(w), w[:1] + strings.ToLower(w[1:])} {
				reckons(t, low+"("+row(s, ", ", c.n)+")", c.word+"("+row(want, " ", c.n)+")")
			}
			reckons(t, "1 * "+w+" ( "+row(s, " , ", c.n)+" ) - 2", `sub(mul("1" `+c.word+"("+row(want, " ", c.n)+`)) "2")`)
		}
		for n := range 6 {
			if n != c.n {
				misreads(t, w+"("+row("?a", ", ", n)+")", w+"("+row("1", ",", n)+") = 2")
			}
			misreads(t, w+"("+row("?a", ", ", n)+",)", w+"(,"+row("?a", ", ", n)+")", w+"("+row("?a", " ", n+2)+")", w+"("+row("?a", ";", n+2)+")", w+"("+row("?a", ",,", n+2)+")")
		}
		args := row("?a", ", ", c.n)
		misreads(t, w, w+" ?a", w+" ( "+args, w+" "+args+" )", w+"w("+args+")", w+"_("+args+")", "w"+w+"("+args+")", w+"(DISTINCT "+args+")", w+"(*)", w+"["+args+"]", w+"{"+args+"}", w+"(("+args+")", w+"(("+args+"), 1, 1, 1)", "'"+w+"'("+args+")", "<"+w+">("+args+")", w+"("+args+")("+args+")", w+" "+w+"("+args+")", "("+w+")("+args+")")
		// at the ',' or ')', ahead of all that is behind it
		for _, tail := range []string{" x:y", " <>", " _:b", " ((((((((((", " 1)", ""} {
			refuses(t, "ASK { FILTER("+w+"("+args+","+tail, api.ErrWord)
			refuses(t, "ASK { FILTER("+w+"("+row("?a", ", ", c.n-1)+")"+tail, api.ErrWord)
		}
		refuses(t, "ASK { FILTER("+w+"(x:y, 1, 2, 3, 4)", api.ErrName)
		refuses(t, "ASK { FILTER("+w+"("+row("1", ", ", c.n-1)+strings.Repeat(", ", min(1, c.n-1))+"x:y)", api.ErrName)
	}
	for n := 1; n < 30; n++ {
		reckons(t, "COALESCE("+row("?a", ", ", n)+")", "coal("+row("?a", " ", n)+")")
		reckons(t, "coalesce("+row("(1)", ",", n)+")", "coal("+row(`"1"`, " ", n)+")")
	}
	reckons(t, "COALESCE("+row("1", ",", 1900)+")", "coal("+row(`"1"`, " ", 1900)+")")
	misreads(t, "COALESCE", "COALESCE()", "COALESCE(1,)", "COALESCE(,1)", "COALESCE(1,,2)", "COALESCE(1 2)", "COALESCE(1", "COALESCE 1", "COALESCE(1;2)", "COALESCE(*)")
	for s, want := range map[string]string{"BOUND(?a)": "bound(?a)", "bound ( $a )": "bound(?a)", "!Bound(?a) && BOUND(?b)": "and(not(bound(?a)) bound(?b))"} {
		reckons(t, s, want)
	}
	misreads(t, "BOUND", "BOUND()", "BOUND(1)", "BOUND(<a>)", "BOUND('a')", "BOUND((?a))", "BOUND(-?a)", "BOUND(!?a)", "BOUND(?a + 1)", "BOUND(?a, ?b)", "BOUND(?a,)", "BOUND(?a ?b)", "BOUND(BOUND(?a))", "BOUND(STR(?a))", "BOUND ?a", "BOUND(true)", "BOUND(?a", "BOUND(*)", "BOUND(x:y)", "BOUND(((((((((((((?a")
}

// P1401: BIND, VALUES, Names

func TestBind(t *testing.T) {
	for _, s := range []string{ // where ?n is, it may be no more
		"?n <b> 1", "?a ?n 1", "?a <b> ?n", "?a <b> 1 . ?c <d> ?n .", "?n <b>* 1", "{ ?n <b> 1 }", "{ } UNION { ?n <b> 1 }", "{ ?n <b> 1 } UNION { }", "{ } UNION { } UNION { ?n <b> 1 }", "OPTIONAL { ?n <b> 1 }", "?n <b> 1 MINUS { }", "?n <b> 1 OPTIONAL { }", "BIND(1 AS ?n)", "BIND(1 AS ?n) .", "VALUES ?n { }", "VALUES ?n { 1 }", "{ BIND(1 AS ?n) }", "{ { { VALUES ?n { } } } }", "{ FILTER(1) ?n <b> 1 }", "?n <b> 1 FILTER(1)", "FILTER(1) ?n <b> 1", "?n <b> 1 BIND(2 AS ?a)", "{ } ?n <b> 1 { }", "OPTIONAL { OPTIONAL { ?n <b> 1 } }", "?n <b> 1 MINUS { ?n <b> 1 }",
	} {
		bad(t, "{ "+s+" BIND(1 AS ?n) }", api.ErrScope)
		bad(t, "{ { "+s+" BIND(?n AS $n) } }", api.ErrScope)
		refuses(t, "ASK { "+s+" BIND(1 AS ?n) ?", api.ErrScope) // behind its ')'
		refuses(t, "ASK { "+s+" BIND(1 AS ?n) x:y", api.ErrScope)
		refuses(t, "ASK { "+s+" BIND(1 AS ?n", api.ErrWord)
		refuses(t, "ASK { "+s+" BIND(1 AS ?n }", api.ErrWord)
		refuses(t, "ASK { "+s+" BIND(1 AS ?n . )", api.ErrWord)
		refuses(t, "ASK { "+s+" BIND(x:y AS ?n)", api.ErrName)
		refuses(t, "ASK { "+s+" BIND(1 AS ?N) }", api.OK)
		refuses(t, "ASK { "+s+" BIND(1 AS ?nn) }", api.OK)
		refuses(t, "ASK { "+s+" { BIND(1 AS ?n) } }", api.OK) // another group
		refuses(t, "ASK { "+s+" OPTIONAL { BIND(1 AS ?n) } }", api.OK)
	}
	for _, s := range []string{ // what is not there, not yet, or not told
		"", "{ }", "MINUS { ?n <b> 1 }", "?a <b> 1 MINUS { ?n <b> 1 }", "MINUS { BIND(1 AS ?n) }", "MINUS { VALUES ?n { } }", "MINUS { OPTIONAL { ?n <b> 1 } }", "{ MINUS { ?n <b> 1 } }", "FILTER(?n)", "FILTER(BOUND(?n))", "{ FILTER(?n) }", "BIND(?n AS ?a)", "BIND(BOUND(?n) AS ?a)", "VALUES ?a { 'n' <n> }", "<n> <n> 'n'", "OPTIONAL { } MINUS { ?n <b> 1 }", "MINUS { ?n <b> 1 } OPTIONAL { }",
	} {
		for _, tail := range []string{"", "?n <b> 1", ". ?n <b> 1", "OPTIONAL { ?n <b> 1 }", "VALUES ?n { }", "FILTER(?n)", "{ BIND(1 AS ?n) }"} {
			refuses(t, "ASK { "+s+" BIND(?n AS ?n) "+tail+" }", api.OK)
		}
		bad(t, "{ "+s+" BIND(1 AS ?n) BIND(2 AS ?n) }", api.ErrScope)
		bad(t, "{ "+s+" BIND(1 AS ?n) ?a <b> 1 . BIND(2 AS ?n) }", api.ErrScope)
	}
	none(t, "{ BIND }", "{ BIND 1 AS ?a }", "{ BIND(1) }", "{ BIND(AS ?a) }", "{ BIND(1 ?a) }", "{ BIND(1 AS) }", "{ BIND(1 AS a) }", "{ BIND(1 AS <a>) }", "{ BIND(1 AS 'a') }", "{ BIND(1 AS ?a ?b) }", "{ BIND(1 AS ?a, 2 AS ?b) }", "{ BIND((1 AS ?a)) }", "{ BIND(1 AS (?a)) }", "{ BIND(1 AS ?a)) }", "{ BIND(1, 2 AS ?a) }", "{ BIND(1 = ?a) }", "{ BIND() }", "{ BIND(1 AS AS ?a) }", "{ BIND BIND(1 AS ?a) }", "{ BIND { } }", "{ BIND(1 AS ?a }")
}

func TestValues(t *testing.T) {
	all(t, map[string]string{
		"{ VALUES ?a { } }": "values(?a)", "{VALUES?a{}}": "values(?a)", "{ VALUES $a { 1 } }": `values(?a "1")`, "{ VALUES ?a { <b> 'c' 5 -5 +5 - 5.0 true false 'd'@en 'e'^^<f> <b> <b> } }": `values(?a <b> "c"s "5" "-5" "5" "-5.0"d "true"b "false"b "d"@en "e"^^<f> <b> <b>)`, "{ VALUES ?a { 1-2+3 } }": `values(?a "1" "-2" "3")`, "{ VALUES ?a { 1 } . VALUES ?a { 2 } }": `join(values(?a "1") values(?a "2"))`, "{ ?a <b> 1 VALUES ?a { 2 } }": `join([?a <b> "1"] values(?a "2"))`,
		"{ VALUES ?a { " + row("1", " ", 1900) + " } }": `values(?a ` + row(`"1"`, " ", 1900) + ")",
	})
	none(t, "{ VALUES }", "{ VALUES ?a }", "{ VALUES { } }", "{ VALUES a { } }", "{ VALUES <a> { } }", "{ VALUES (?a) { } }", "{ VALUES ?a ?b { } }", "{ VALUES (?a ?b) { } }", "{ VALUES ?a ( ) }", "{ VALUES ?a [ ] }", "{ VALUES ?a { 1, 2 } }", "{ VALUES ?a { 1 . 2 } }", "{ VALUES ?a { . } }", "{ VALUES ?a { ?b } }", "{ VALUES ?a { _:b } }", "{ VALUES ?a { a } }", "{ VALUES ?a { w } }", "{ VALUES ?a { UNDEF } }", "{ VALUES ?a { - } }", "{ VALUES ?a { - - 5 } }", "{ VALUES ?a { -<b> } }", "{ VALUES ?a { (1) } }", "{ VALUES ?a { { } } }", "{ VALUES ?a { 1 ", "{ VALUES ?a 1 }", "{ VALUES ?a { True } }", "{ VALUES ?a { 1 + } }", "{ VALUES ?a { 1 * 2 } }", "{ VALUES ?a { } UNION { } }", "{ OPTIONAL VALUES ?a { } }")
}
