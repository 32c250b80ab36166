package turtle_test

import (
	"slices"
	"strconv"
	"strings"
	"sync"
	"testing"
	"unsafe"

	"triad/api"
	"triad/term"
	"triad/turtle"
)

// longest is how many bytes a text may have, most how many triples there may be.
const (
	longest = 4000
	most    = 300
)

func x(n int) string { return strings.Repeat("x", n) }

func ref(s string) api.Term { return api.Term{Kind: api.Iri, S: s} }

func node(s string) api.Term { return api.Term{Kind: api.Blank, S: s} }

func lit(s string) api.Term { return api.Term{Kind: api.Literal, S: s} }

func typed(s, y string) api.Term { return api.Term{Kind: api.Literal, S: s, Type: y} }

// clip tells a text for a fault.
func clip(s string) string {
	if len(s) > 300 {
		s = s[:270] + ".." + strconv.Itoa(len(s)) + ".." + s[len(s)-20:]
	}
	return strconv.Quote(s)
}

// short is for what is told of long references.
var short = strings.NewReplacer(
	"<"+api.RType+">", "TYPE", "<"+api.RFirst+">", "FIRST", "<"+api.RRest+">", "REST", "<"+api.RNil+">", "NIL",
	"<"+api.XInt+">", "int", "<"+api.XDec+">", "dec", "<"+api.XBool+">", "bool",
)

// lines are triples in short.
func lines(l []api.Triple) []string {
	var out []string
	for _, y := range l {
		out = append(out, short.Replace(term.Text(y[0])+" "+term.Text(y[1])+" "+term.Text(y[2])))
	}
	return out
}

// show tells triples for a fault.
func show(l []api.Triple) string {
	return strconv.Itoa(len(l)) + ": " + clip(strings.Join(lines(l[:min(len(l), 12)]), " | "))
}

// based tells a fault where Parse answers other triples than these lines, or an error.
func based(t *testing.T, base, s string, want ...string) {
	t.Helper()
	l, e := turtle.Parse(s, base, "n")
	if e != api.OK || !slices.Equal(lines(l), want) {
		t.Errorf("P1201: %s: %s %v, not %s", clip(s), show(l), e, strings.Join(want, " | "))
	}
	agrees(t, s, base, "n")
}

// reads is based on nothing.
func reads(t *testing.T, s string, want ...string) {
	t.Helper()
	based(t, "", s, want...)
}

// refuses tells a fault where Parse answers another error, or triples.
func refuses(t *testing.T, s string, want api.Errno) {
	t.Helper()
	l, e := turtle.Parse(s, "", "n")
	if e != want || len(l) != 0 {
		t.Errorf("P1201: %s: %s %v, not %v", clip(s), show(l), e, want)
	}
	agrees(t, s, "", "n")
}

// fails is of texts with a token that does not fit.
func fails(t *testing.T, l ...string) {
	t.Helper()
	for _, s := range l {
		refuses(t, s, api.ErrWord)
	}
}

// counts tells a fault where Parse answers so many triples no more, or an error.
func counts(t *testing.T, s string, want int) {
	t.Helper()
	l, e := turtle.Parse(s, "", "n")
	if e != api.OK || len(l) != want {
		t.Errorf("P1201: %s: %s %v, not %d", clip(s), show(l), e, want)
	}
	agrees(t, s, "", "n")
}

// P1201: documents

func TestNothing(t *testing.T) {
	for _, s := range []string{"", " ", "\t", "\n", "\r", " \t\r\n ", "#", "# a", "#\n#\n", "# <a> <b> <c> .", " # \" ' \\ é \xff\n\t", "#.", strings.Repeat(" ", longest), strings.Repeat("#", longest)} {
		reads(t, s)
		l, e := turtle.Parse(s, s, s)
		if len(l) != 0 || e != api.OK {
			t.Errorf("P1201: %s: %s %v", clip(s), show(l), e)
		}
	}
	for _, s := range []string{"", " ", "# a\n", "\r\n\t"} {
		reads(t, s+"<a>"+s+"<b>"+s+"<c>"+s+"."+s, "<a> <b> <c>")
	}
}

// TestLexError: nothing is read of a text that has no tokens, wherever that is told.
func TestLexError(t *testing.T) {
	early := []string{"<> <b> <c> . ", "x:y ", "<a> <b> '" + x(61) + "' . ", strings.Repeat("(", 11), "<a> <b> " + strings.Repeat("1,", 301), ". "}
	for _, s := range []string{"&", "\"", "'a", "\"a\n\"", "'\\q'", "_", "_ :a", "$", "@", "@1", "\x00", "é", "\xff", "%", "\\", "`", "~"} {
		fails(t, s, "<a> <b> <c> . "+s, s+" <a> <b> <c> .")
		for _, bad := range early {
			fails(t, bad+s)
		}
	}
	fails(t, "<a> <b> <c d> .", "<a> <b> \"c\"\"d .", "<a> <b> <c\n> .")
	for _, s := range append(early, "", "<a> <b> <c> .", "&", "\"") {
		refuses(t, s+strings.Repeat(" ", longest+1-len(s)), api.ErrLong)
		refuses(t, strings.Repeat("\n", longest+1-len(s))+s, api.ErrLong)
		refuses(t, s+strings.Repeat("#", 1<<20), api.ErrLong)
		holds(t, s+strings.Repeat(" ", longest-len(s)))
	}
	reads(t, strings.Repeat(" ", longest-8)+"<a><b>1.", `<a> <b> "1"^^int`)
	refuses(t, strings.Repeat(" ", longest-7)+"<a><b>1.", api.ErrLong)
}

func TestStatements(t *testing.T) {
	reads(t, "<a> <b> 5 .", `<a> <b> "5"^^int`)
	reads(t, "<a><b><c>.", "<a> <b> <c>")
	reads(t, "<a> <b> <c> . _:d <e> 'f' . <a> <b> <c> .", "<a> <b> <c>", `_:d <e> "f"`, "<a> <b> <c>")
	reads(t, "<c><b><a>.<b><b><b>.<a><b><c>.", "<c> <b> <a>", "<b> <b> <b>", "<a> <b> <c>")
	reads(t, "_:x <b> _:x .", "_:x <b> _:x")
	reads(t, "<a>#\n<b>\n<c>\t.", "<a> <b> <c>")
	fails(t, ".", "..", "<a>", "<a> .", "<a> <b>", "<a> <b> .", "<a> <b> <c>", "<a> <b> <c> ..", "<a> <b> <c> . .", "<a> <b> <c> <d> .", "<a> <b> <c> <d> <e> .", "<a> <b> <c> . <d>", "<a> <b> <c> <d> <b> <c> .", ". <a> <b> <c> .", "<a> . <b> <c> .", "<a> <b> <c> ! .", "<a> <b> <c> }", "{ <a> <b> <c> . }", "<a> <b> <c> ; ", "<a> <b> <c> , ")
	s := ""
	for n := range 20 {
		counts(t, s, n)
		fails(t, s+".", s+"<a> <b>", s+"?a <b> <c> .", s+"<a> <b> <c>", s+"<a> <b> .")
		s += "<a> <b> <c> . "
	}
}

// P1201: "@prefix", "@base", names

func TestPrefix(t *testing.T) {
	reads(t, "@prefix p: <q> .")
	reads(t, "@prefix p: <q> . p:a p:b p:c .", "<qa> <qb> <qc>")
	reads(t, "@prefix p:<q>.p:a p:b p:c.", "<qa> <qb> <qc>")
	reads(t, "@prefix : <q> . :a :b :c .", "<qa> <qb> <qc>") // the empty one
	reads(t, "@prefix:<q>.:a:b:c.", "<qa> <qb> <qc>")
	reads(t, "@prefix p: <q> . p: p: p:.", "<q> <q> <q>") // nothing behind the ':'
	reads(t, "@prefix : <q> . : : :.", "<q> <q> <q>")
	reads(t, "@prefix p: <q> . p:.a p:b.c p:-.d .", "<q.a> <qb.c> <q-.d>")
	reads(t, "@prefix p: <q> . p:a p:b p:c. p:d p:e p:f..g.", "<qa> <qb> <qc>", "<qd> <qe> <qf..g>")
	reads(t, "@prefix p: <q> . @prefix P: <r> . p:a P:b p:P .", "<qa> <rb> <qP>") // letters of either case are two
	reads(t, "@prefix a: <q> . a:a a a: .", "<qa> TYPE <q>")
	reads(t, "@prefix true: <q> . true: true:false true .", `<q> <qfalse> "true"^^bool`)
	reads(t, "@prefix a-b_1: <q> . a-b_1:c-d_2 <b> a-b_1: .", "<qc-d_2> <b> <q>")
	reads(t, "@prefix p: <q> . @prefix pp: <r> . @prefix : <s> . p:p pp:p :pp .", "<qp> <rp> <spp>")
	reads(t, "@prefix p: <> . p:a p:b p:c .", "<a> <b> <c>")
	reads(t, "@prefix p: <"+x(70)+"> . <a> <b> <c> .", "<a> <b> <c>") // it is no term
	reads(t, "<a> <b> <c> . @prefix p: <q> . p:a <b> <c> . @prefix r: <s> .", "<a> <b> <c>", "<qa> <b> <c>")
}

// TestPrefixAgain: a prefix is what it was said to be last, and resolved of the base as it stood then.
func TestPrefixAgain(t *testing.T) {
	reads(t, "@prefix p: <q> . p:a <b> p:c . @prefix p: <r> . p:a <b> p:c .", "<qa> <b> <qc>", "<ra> <b> <rc>")
	reads(t, "@prefix p: <q> . @prefix p: <r> . @prefix p: <q> . p:a <b> p:c .", "<qa> <b> <qc>")
	reads(t, "@prefix : <q> . @prefix p: <s> . @prefix : <r> . :a p:b :c .", "<ra> <sb> <rc>")
	based(t, "http://x/y/z", "@prefix p: <q/> . p:a p: p:c .", "<http://x/y/q/a> <http://x/y/q/> <http://x/y/q/c>")
	based(t, "http://x/y/z?q#f", "@prefix : <> . @prefix p: <#> . @prefix q: <../> . @prefix r: <?r> . :a p:b q:c . r:d q: r: .", "<http://x/y/z?qa> <http://x/y/z?q#b> <http://x/c>", "<http://x/y/z?rd> <http://x/> <http://x/y/z?r>")
	based(t, "http://x/y/z", "@prefix p: <q/> . @base <http://o/> . p:a <b> p:c . @prefix p: <q/> . p:a <b> <c> .", "<http://x/y/q/a> <http://o/b> <http://x/y/q/c>", "<http://o/q/a> <http://o/b> <http://o/c>")
	reads(t, "@prefix p: <q> . @base <http://o/> . p:a <b> <c> .", "<qa> <http://o/b> <http://o/c>") // a name's reference is not resolved again
	based(t, "http://x/y/z", "@prefix p: <http://o/?/../> . p:a <b> <c> .", "<http://o/?/../a> <http://x/y/b> <http://x/y/c>")
	var s, n strings.Builder
	for i := range 90 { // many of them
		s.WriteString("@prefix p" + strconv.Itoa(i) + ": <q" + strconv.Itoa(i) + "> . ")
		n.WriteString("p" + strconv.Itoa(i) + ":, ")
	}
	l, e := turtle.Parse(s.String()+"<a> <b> "+n.String()+"p7: .", "", "")
	if e != api.OK || len(l) != 91 || l[89][2] != ref("q89") || l[90][2] != ref("q7") {
		t.Errorf("P1201: %s %v", show(l), e)
	}
}

func TestNoPrefix(t *testing.T) {
	fails(t, "@prefix", "@prefix .", "@prefix p:", "@prefix p: .", "@prefix p: <q>", "@prefix p: <q> <a> <b> <c> .", "@prefix p <q> .", "@prefix <q> .", "@prefix p:a <q> .", "@prefix :a <q> .", "@prefix p:. <q> .", "@prefix p: q: .", "@prefix p: p: .", "@prefix p: _:a .", "@prefix p: 'q' .", "@prefix p: a .", "@prefix p: 5 .", "@prefix p: [] .", "@prefix p: () .",
		"@prefix p: <q> ;", "@prefix p: <q> , <r> .", "@prefix p: <q> ..", "@prefix p: q: <r> .", "@prefix p: <q> r: <s> .", "@prefix _:p <q> .", "@prefix 'p:' <q> .", "@prefix 5 <q> .", "@prefix @prefix p: <q> .", "@prefix p : <q> .", "@prefix ?p <q> .", "@prefix a <q> .", "PREFIX p: <q> .", "PREFIX p: <q>", "prefix p: <q> .", "@prefixes p: <q> .", "@prefix- p: <q> .", "@pre p: <q> .", "@en p: <q> .", "@what <a> .", "@base p: <q> .",
		"<a> @prefix p: <q> .", "<a> <b> @prefix p: <q> .", "<a> <b> <c> @prefix p: <q> .", "<a> <b> <c> ; @prefix p: <q> .", "<a> <b> [ @prefix p: <q> . ] .", "[ @prefix p: <q> ] .", "( @prefix p: <q> ) <a> <b> .", "@prefix p: <q> p:a <b> <c> .", "@prefix p: <q> . @base p: .", "@prefix p: <q> . @prefix r: p: .", "@prefix p: <q> . @prefix r: p:a .")
}

func TestBase(t *testing.T) {
	based(t, "http://x/y/z", "<a> <#b> </c> .", "<http://x/y/a> <http://x/y/z#b> <http://x/c>")
	based(t, "http://x/y/z?q#f", "<> <?b> <//c/../d> .", "<http://x/y/z?q> <http://x/y/z?b> <http://c/d>")
	based(t, "http://x/y/z", "<c:d> <c:> <c:/./e> .", "<c:d> <c:> <c:/e>")
	reads(t, "<../a> <./b> <c/../d> .", "<a> <b> </d>") // of no base too
	reads(t, "<http://x/y/./z> <b:> <#> .", "<http://x/y/z> <b:> <#>")
	based(t, "http://x/y/z", "@base <q/> .")
	based(t, "http://x/y/z", "@base <q/> . <a> <b> <c> .", "<http://x/y/q/a> <http://x/y/q/b> <http://x/y/q/c>")
	based(t, "http://x/y/z", "@base<q/>.<a><b><c>.", "<http://x/y/q/a> <http://x/y/q/b> <http://x/y/q/c>")
	based(t, "http://x/y/z", "<a> <b> <c> . @base <q/> . <a> <b> <c> . @base <../r/> . <a> <b> <c> .", "<http://x/y/a> <http://x/y/b> <http://x/y/c>", "<http://x/y/q/a> <http://x/y/q/b> <http://x/y/q/c>", "<http://x/y/r/a> <http://x/y/r/b> <http://x/y/r/c>")
	based(t, "http://x/y/z", "@base <q/> . @base <q/> . <> <b> <c> .", "<http://x/y/q/q/> <http://x/y/q/q/b> <http://x/y/q/q/c>")
	based(t, "http://x/y/z#f", "@base <> . @base <#g> . <> <#b> <c> .", "<http://x/y/z> <http://x/y/z#b> <http://x/y/c>")
	based(t, "http://x/y/z", "@base <http://o/p> . <a> <#b> <?c> .", "<http://o/a> <http://o/p#b> <http://o/p?c>")
	reads(t, "@base <http://o/> . <a> <b> 'c'^^<t> .", `<http://o/a> <http://o/b> "c"^^<http://o/t>`)
	reads(t, "@base <"+x(70)+"> . <a> <b> <c> .", "<a> <b> <c>") // it is no term
	based(t, "a b", "<c:d> <c:e> <c:f> .", "<c:d> <c:e> <c:f>")
	fails(t, "@base", "@base .", "@base a:", "@base a: .", "@base a:b .", "@base _:a .", "@base a .", "@base 'a' .", "@base 5 .", "@base <a>", "@base <a> <b> .", "@base <a> ;", "@base <a> , <b> .", "@base : <a> .", "@base p: <a> .", "@bases <a> .", "@base- <a> .", "@base <a> . .", "BASE <a> .", "base <a> .", "@base @base <a> .", "@base [] .", "@base () .", "@base <a> <b> <c> .", "@base ?a .", "@base + .",
		"<a> @base <b> .", "<a> <b> @base <c> .", "<a> <b> <c> @base <d> .", "<a> <b> <c> ; @base <d> .", "[ @base <a> ] .", "( @base <a> ) <b> <c> .")
}

func TestNames(t *testing.T) {
	for _, s := range []string{"x:y", "x:", ":", ":y", "x:y.z", "P:y", "pp:y", "p-:y", "p_:", "a:a"} {
		for _, front := range []string{"", "<a> <b> <c> . ", "@prefix p: <q> . ", "@prefix p: <x:> . @base <x:/> . "} {
			for _, before := range []string{"", "<a> ", "<a> <b> ", "<a> <b> <c>, ", "<a> <b> <c>; ", "[ ", "( ", "[ <a> ", "[ <a> <b> ] ", "( <a> ", "<a> <b> ( ", "<a> <b> [ ", "<a> <b> [ <c> ", "<a> <b> \"c\"^^", "<a> <b> ( \"c\"^^", "() ", "_:a ", "<a> a "} {
				refuses(t, front+before+s, api.ErrName) // whatever is behind
				refuses(t, front+before+s+" .", api.ErrName)
				refuses(t, front+before+s+" <b> <c> .", api.ErrName)
				refuses(t, front+before+s+" ?", api.ErrName)
				refuses(t, front+before+s+" . @prefix "+s[:strings.Index(s, ":")+1]+" <q> .", api.ErrName)
			}
			for _, before := range []string{"<a> <b> <c> ", "<a> <b> 5 ", "<a> <b> - ", "<a> <b> \"c\"", "<a> <b> \"c\"@en ", "@base ", "@prefix r: ", "[ <a> <b> <c> ", "<a> <b> () ", "<a> <b> [] ", "<a> <b> <c> ^^", ". "} {
				refuses(t, front+before+s, api.ErrWord) // where none may stand
			}
		}
	}
	refuses(t, "@prefix p: <q> . p:a p:b p:c . P:a p:b p:c .", api.ErrName)
	refuses(t, "@prefix p: <q> . <a> <b> :p .", api.ErrName)
	refuses(t, "@prefix : <q> . <a> <b> p: .", api.ErrName)
}

// P1201: verbs

func TestTypeVerb(t *testing.T) {
	reads(t, "<a> a <b>.", "<a> TYPE <b>")
	reads(t, "_:a a 'b', <c>; <d> <e>; a _:f .", `_:a TYPE "b"`, "_:a TYPE <c>", "_:a <d> <e>", "_:a TYPE _:f")
	reads(t, "[ a <b> ] a <c> .", "_:n1 TYPE <b>", "_:n1 TYPE <c>")
	reads(t, "<a> <b> [ a <c>; a <d> ] .", "_:n1 TYPE <c>", "_:n1 TYPE <d>", "<a> <b> _:n1")
	reads(t, "() a () .", "NIL TYPE NIL")
	based(t, "http://x/", "<a> a <b> .", "<http://x/a> TYPE <http://x/b>")
	for _, s := range []string{"a", "A", "is", "aa", "type", "b"} {
		fails(t, s, s+" <b> <c> .", "<a> <b> "+s+" .", "<a> a "+s+" .", "<a> <b> ("+s+") .", "<a> <b> [<b> "+s+"] .", "("+s+") <b> <c> .", "<a> <b> \"c\"^^"+s+" .", s+" a "+s+" .", "<a> <b> <c>, "+s+" .", "<a> <b> <c> "+s+" <d> .", "<a> a "+s+" <b> .")
		if s != "a" {
			fails(t, "<a> "+s+" <b> .", "<a> <b> <c>; "+s+" <d> .", "[ "+s+" <c> ] .", "<a> <b> <c> ; ; "+s)
		}
	}
	fails(t, "<a> a .", "<a> a", "<a> a; <b> <c> .", "<a> <b> a <c> .")
}

func TestCommas(t *testing.T) {
	reads(t, "<a> <b> <c>, <d> .", "<a> <b> <c>", "<a> <b> <d>")
	reads(t, "<a> <b> <c>,<c>,_:c,'c',5.", "<a> <b> <c>", "<a> <b> <c>", "<a> <b> _:c", `<a> <b> "c"`, `<a> <b> "5"^^int`)
	reads(t, "<a> <b> -5, +5.0, 'x'@en, \"y\"^^<t>, true, false, _:q .", `<a> <b> "-5"^^int`, `<a> <b> "5.0"^^dec`, `<a> <b> "x"@en`, `<a> <b> "y"^^<t>`, `<a> <b> "true"^^bool`, `<a> <b> "false"^^bool`, "<a> <b> _:q")
	reads(t, "<a> <b> [], (), [] .", "<a> <b> _:n1", "<a> <b> NIL", "<a> <b> _:n2")
	fails(t, "<a> <b> <c>, .", "<a> <b> , <c> .", "<a> <b> <c>,, <d> .", "<a> , <b> <c> .", "<a>, <b> <c> <d> .", "<a> <b>, <c> <d> .", ", <a> <b> <c> .", "<a> <b> <c>,", "<a> <b> <c> . ,", "<a> <b> (<c>, <d>) .", "<a> <b> (<c>,) .", "<a> <b> [ <c> <d>, ] .", "<a> <b> [,] .", "<a> <b> <c>,; <d> <e> .", "<a> <b> <c>;, <d> .", "<a> <b> <c>, <d> <e> .", "[] , <a> <b> .")
}

func TestSemicolons(t *testing.T) {
	reads(t, "<a> <b> <c>; <d> <e> .", "<a> <b> <c>", "<a> <d> <e>")
	reads(t, "_:x <b> <c>; <d> <e>, <f>;;; a <g>; .", "_:x <b> <c>", "_:x <d> <e>", "_:x <d> <f>", "_:x TYPE <g>")
	for n := range 8 {
		end := strings.Repeat(";", n) // at the end
		reads(t, "<a> <b> <c>"+end+".", "<a> <b> <c>")
		reads(t, "<a> <b> <c>"+strings.Repeat(" ;\n", n)+".<a> <b> <c>"+end+".", "<a> <b> <c>", "<a> <b> <c>")
		reads(t, "<a> <b> [<c> <d>"+end+"]"+end[:min(n, 1)]+".", "_:n1 <c> <d>", "<a> <b> _:n1")
		reads(t, "[<c> <d>"+end+"] .", "_:n1 <c> <d>")
		reads(t, "[<c> <d>"+end+"] <e> <f>"+end+".", "_:n1 <c> <d>", "_:n1 <e> <f>")
		reads(t, "<a> <b> <c>;"+end+"<d> <e>;"+end+"a <f>, <g>"+end+".", "<a> <b> <c>", "<a> <d> <e>", "<a> TYPE <f>", "<a> TYPE <g>")
		fails(t, "<a> <b> <c>;"+end, "<a> <b> <c>; "+end+"<d> .", "<a> <b> <c>;"+end+"5 .", "<a> <b> <c>;"+end+"_:d <e> .", "<a> <b> <c>;"+end+", <d> .", "<a> <b> <c>;"+end+"[] .", "<a> <b> <c>;"+end+"() .", "<a> <b> <c>;"+end+") .", "<a> <b> <c>;"+end+"] .", "<a> <b> [ <c> <d>;"+end+" .")
		if n > 0 {
			fails(t, end, end+"<a> <b> <c> .", "<a>"+end+" <b> <c> .", "<a> <b>"+end+" <c> .", "[]"+end+".", "["+end+"] .", "<a> <b> ["+end+"] .", "<a> <b> ["+end+"<c> <d>] .", "[] "+end+" <a> <b> .", "<a> <b> (1"+end+"2) .", "<a> <b> ("+end+") .", "<a> <b> <c> ."+end, "@prefix p: <q> "+end+" .", "<a> <b> <c>,"+end+".", "<a>"+end+".", "<a> <b>"+end+".")
		}
	}
	reads(t, "@prefix p: <q> . <a> <b> <c>; p: p:; p:d p:e .", "<a> <b> <c>", "<a> <q> <q>", "<a> <qd> <qe>")
	fails(t, "<a> <b> <c> <d> <e> .", "<a> <b> <c>; <d> <e> <f> .")
}

// P1201: blanks

func TestBrackets(t *testing.T) {
	reads(t, "<a> <b> [] .", "<a> <b> _:n1")
	reads(t, "<a> <b> [ ] .", "<a> <b> _:n1")
	reads(t, "<a> <b> [ <c> 1 ] .", `_:n1 <c> "1"^^int`, "<a> <b> _:n1")
	reads(t, "<a> <b> [ <c> 1; <d> [ <e> 2 ] ] .", `_:n1 <c> "1"^^int`, `_:n2 <e> "2"^^int`, "_:n1 <d> _:n2", "<a> <b> _:n1")
	reads(t, "<a> <b> [ <c> [ <d> [] ], [] ], [] .", "_:n2 <d> _:n3", "_:n1 <c> _:n2", "_:n1 <c> _:n4", "<a> <b> _:n1", "<a> <b> _:n5")
	reads(t, "<a><b>[<c>[];<d>[]].", "_:n1 <c> _:n2", "_:n1 <d> _:n3", "<a> <b> _:n1")
	reads(t, "_:a <b> [ <c> _:a ] .", "_:n1 <c> _:a", "_:a <b> _:n1")
	reads(t, "[ <a> <b> ] .", "_:n1 <a> <b>") // as subjects
	reads(t, "[ <a> <b>, <c>; <d> <e> ] .", "_:n1 <a> <b>", "_:n1 <a> <c>", "_:n1 <d> <e>")
	reads(t, "[ <a> <b> ] <c> <d> .", "_:n1 <a> <b>", "_:n1 <c> <d>")
	reads(t, "[ <a> [] ] <c> [], [ <d> <e> ]; <f> [] .", "_:n1 <a> _:n2", "_:n1 <c> _:n3", "_:n4 <d> <e>", "_:n1 <c> _:n4", "_:n1 <f> _:n5")
	reads(t, "[] <c> <d> .", "_:n1 <c> <d>")
	reads(t, "[] .")
	reads(t, "[].[].<a> <b> [].", "<a> <b> _:n3") // their numbers are taken all the same
	reads(t, "[] <a> <b> . [] <a> <b> . <c> <d> [] .", "_:n1 <a> <b>", "_:n2 <a> <b>", "<c> <d> _:n3")
	reads(t, "_:n1 <a> [] .", "_:n1 <a> _:n1") // one label is one node
	fails(t, "[", "[]", "[ <a>", "[ <a> <b>", "[ <a> <b> ]", "[ <a> ] .", "[ <a> <b> .", "[ <a> <b> ] <c> .", "[ <a> <b> . ] .", "] .", "] <a> <b> .", "[[]] .", "[] [] .", "[] ] .", "[] <a> ] .", "[ 5 ] .", "[ _:a <b> ] .", "[ [] <a> ] .", "[ () <a> ] .", "[ <a> <b> <c> ] .", "[ <a> <b> ) .", "[ <a> <b> ] , <c> .", "[ <a> <b> ] 'c' <d> .", "[ <a> <b> ] _:c <d> .", "[ <a> <b> ] [ <c> <d> ] .", "[ <a> <b> <c> <d> ] .", "[ <a> <b> ] a .", "[ .",
		"<a> [] <b> .", "<a> [ <b> <c> ] <d> .", "<a> <b> [ .", "<a> <b> [", "<a> <b> [ <c> ] .", "<a> <b> [ <c> <d> .", "<a> <b> [ <c> <d> ]", "<a> <b> ] .", "<a> <b> [] ] .", "<a> <b> [] [] .", "<a> <b> [ 5 ] .", "<a> <b> [ [] ] .", "<a> <b> [ <c> <d> ) .", "<a> <b> [ <c> <d> ] <e> <f> .", "<a> <b> [] <c> .", "<a> <b> [ <c> <d> ]; 5 .", "<a> <b> <c> [ <d> <e> ] .", "[ <a> <b> ] <c> <d> ] .", "<a> <b> \"c\"^^[] .")
}

func TestCollections(t *testing.T) {
	reads(t, "<a> <b> () .", "<a> <b> NIL")
	reads(t, "<a> <b> ( ) .", "<a> <b> NIL")
	reads(t, "<a> <b> (1) .", `_:n1 FIRST "1"^^int`, "_:n1 REST NIL", "<a> <b> _:n1")
	reads(t, "<a> <b> (1 2) .", `_:n1 FIRST "1"^^int`, "_:n1 REST _:n2", `_:n2 FIRST "2"^^int`, "_:n2 REST NIL", "<a> <b> _:n1")
	reads(t, "<a> <b> (1 1 1) .", `_:n1 FIRST "1"^^int`, "_:n1 REST _:n2", `_:n2 FIRST "1"^^int`, "_:n2 REST _:n3", `_:n3 FIRST "1"^^int`, "_:n3 REST NIL", "<a> <b> _:n1")
	reads(t, "<a> <b> (<c>_:d'e'@en\"f\"^^<g>-5 +5.0 true false[]()) .", "_:n1 FIRST <c>", "_:n1 REST _:n2", "_:n2 FIRST _:d", "_:n2 REST _:n3", `_:n3 FIRST "e"@en`, "_:n3 REST _:n4", `_:n4 FIRST "f"^^<g>`, "_:n4 REST _:n5", `_:n5 FIRST "-5"^^int`, "_:n5 REST _:n6", `_:n6 FIRST "5.0"^^dec`, "_:n6 REST _:n7", `_:n7 FIRST "true"^^bool`, "_:n7 REST _:n8", `_:n8 FIRST "false"^^bool`, "_:n8 REST _:n10", "_:n10 FIRST _:n9", "_:n10 REST _:n11", "_:n11 FIRST NIL", "_:n11 REST NIL", "<a> <b> _:n1")
	reads(t, "() <b> <c> .", "NIL <b> <c>") // as subjects
	reads(t, "(1) <b> <c> .", `_:n1 FIRST "1"^^int`, "_:n1 REST NIL", "_:n1 <b> <c>")
	reads(t, "(<a> 'b') <b> (); <c> (<d>), _:e .", "_:n1 FIRST <a>", "_:n1 REST _:n2", `_:n2 FIRST "b"`, "_:n2 REST NIL", "_:n1 <b> NIL", "_:n3 FIRST <d>", "_:n3 REST NIL", "_:n1 <c> _:n3", "_:n1 <c> _:e")
	reads(t, "(()) <b> <c> .", "_:n1 FIRST NIL", "_:n1 REST NIL", "_:n1 <b> <c>") // within one another
	reads(t, "(((1))) <b> <c> .", `_:n1 FIRST "1"^^int`, "_:n1 REST NIL", "_:n2 FIRST _:n1", "_:n2 REST NIL", "_:n3 FIRST _:n2", "_:n3 REST NIL", "_:n3 <b> <c>")
	reads(t, "<a> <b> ((1) 2 (3)) .", `_:n1 FIRST "1"^^int`, "_:n1 REST NIL", "_:n2 FIRST _:n1", "_:n2 REST _:n3", `_:n3 FIRST "2"^^int`, `_:n4 FIRST "3"^^int`, "_:n4 REST NIL", "_:n3 REST _:n5", "_:n5 FIRST _:n4", "_:n5 REST NIL", "<a> <b> _:n2")
	reads(t, "<a> <b> ([<c> 1] (2)) .", `_:n1 <c> "1"^^int`, "_:n2 FIRST _:n1", `_:n3 FIRST "2"^^int`, "_:n3 REST NIL", "_:n2 REST _:n4", "_:n4 FIRST _:n3", "_:n4 REST NIL", "<a> <b> _:n2")
	reads(t, "<a> <b> ([] []) .", "_:n2 FIRST _:n1", "_:n2 REST _:n4", "_:n4 FIRST _:n3", "_:n4 REST NIL", "<a> <b> _:n2")
	reads(t, "[ <a> (1) ] .", `_:n2 FIRST "1"^^int`, "_:n2 REST NIL", "_:n1 <a> _:n2") // within '[' ']'
	reads(t, "<a> <b> [ <c> (), ([]); <d> (<e>) ] .", "_:n1 <c> NIL", "_:n3 FIRST _:n2", "_:n3 REST NIL", "_:n1 <c> _:n3", "_:n4 FIRST <e>", "_:n4 REST NIL", "_:n1 <d> _:n4", "<a> <b> _:n1")
	reads(t, "<a> <b> (1-2+3) .", `_:n1 FIRST "1"^^int`, "_:n1 REST _:n2", `_:n2 FIRST "-2"^^int`, "_:n2 REST _:n3", `_:n3 FIRST "3"^^int`, "_:n3 REST NIL", "<a> <b> _:n1")
	fails(t, "(", "()", "() .", "(1) .", "(", "(1", "(1)", "(1) <a>", "(1) <a> .", "(1 .", "( .", ") .", ") <a> <b> .", "(]", "[)", "(1] <a> <b> .", "(1; 2) <a> <b> .", "(1, 2) <a> <b> .", "(1 . 2) <a> <b> .", "(a) <a> <b> .", "(1 ?a) <a> <b> .", "(()", "(() <a> <b> .", "() () <a> .", "() [] <a> .", "(1)) <a> <b> .", "() _:a <b> .", "(- ) <a> <b> .",
		"<a> () <b> .", "<a> (<b>) <c> .", "<a> (1) .", "<a> <b> (1 .", "<a> <b> (", "<a> <b> ) .", "<a> <b> (1)) .", "<a> <b> (1] .", "<a> <b> () () .", "<a> <b> () <c> .", "<a> <b> (1) 2 .", "<a> <b> (1", "<a> <b> (1)", "<a> <b> (<c> a <d>) .", "<a> <b> (@en) .", "<a> <b> (^^<c>) .", "<a> <b> \"c\"^^() .", "[ (1) <a> ] .", "[ <a> (1 ] ) .", "<a> <b> (<c> = <d>) .", "<a> <b> {} .", "<a> <b> (;) .")
}

// TestBlankNumbers: a blank's number is the next one when its '[' is read, a collection's when the object is whole.
func TestBlankNumbers(t *testing.T) {
	var want []string
	for i := range most {
		want = append(want, "<a> <b> _:n"+strconv.Itoa(i+1))
	}
	reads(t, "<a> <b> []"+strings.Repeat(",[]", most-1)+".", want...)
	for _, label := range []string{"", "n", "_", "0", "1", "aZ_9", x(19)} {
		l, e := turtle.Parse("[] <a> [], ([]) .", "", label)
		y := "_:" + label
		if e != api.OK || !slices.Equal(lines(l), []string{y + "1 <a> " + y + "2", y + "4 FIRST " + y + "3", y + "4 REST NIL", y + "1 <a> " + y + "4"}) {
			t.Errorf("P1201: of %q: %s %v", label, show(l), e)
		}
	}
	for range 3 { // from 1 on, each time
		reads(t, "<a> <b> [] .", "<a> <b> _:n1")
	}
}

// labels are ones that no blank may have, with a number, and their errors.
func labels() map[string]api.Errno {
	return map[string]api.Errno{"-": api.ErrArg, " ": api.ErrArg, "é": api.ErrArg, "\xff": api.ErrArg, "a.b": api.ErrArg, "_:a": api.ErrArg, "\x00": api.ErrArg, x(20): api.ErrArg, x(59): api.ErrArg, x(60): api.ErrLong, strings.Repeat("-", 60): api.ErrLong, x(1 << 20): api.ErrLong}
}

func TestBadLabel(t *testing.T) {
	for label, want := range labels() {
		for s, where := range map[string]api.Errno{"": api.OK, "<a> <b> (), <c> .": api.OK, "[] .": api.OK, "[].[].": api.OK, "<a> <b> [] .": want, "[] <a> <b> .": want, "[ <a> <b> ] .": want, "<a> <b> (1) .": want, "<a> <b> ( .": api.ErrWord, "<a> <b> [": api.ErrWord, "<a> <b> [ <c>": api.ErrWord, "<a> <b> <c>, [] ?": want, "<a> <b> (1 ?": want, "<a> <b> [ <c> 1 ?": want, "<a> <b> (x:y": api.ErrName} {
			l, e := turtle.Parse(s, "", label)
			if e != where || e != api.OK && len(l) != 0 {
				t.Errorf("P1201: %s of %s: %s %v, not %v", clip(s), clip(label), show(l), e, where)
			}
			agrees(t, s, "", label)
		}
	}
	for s, where := range map[string]api.Errno{"<a> <b> []" + strings.Repeat(",[]", 8) + ".": api.OK, "<a> <b> []" + strings.Repeat(",[]", 9) + ".": api.ErrArg, strings.Repeat("[].", 9) + "<a> <b> (1) .": api.ErrArg} {
		_, e := turtle.Parse(s, "", x(19)) // its tenth is too long
		if e != where {
			t.Errorf("P1201: %s: %v, not %v", clip(s), e, where)
		}
	}
}

// P1201: literals

func TestLiterals(t *testing.T) {
	for s, want := range map[string]string{
		"'c'": `"c"`, `"c"`: `"c"`, "''": `""`, `""`: `""`, `"\t\n\r\"\\\'"`: `"\t\n\r\"\\'"`, "\"\x00\xff#.\"": "\"\x00\xff#.\"", "'<a> _:b 5'": `"<a> _:b 5"`,
		"'c'@en": `"c"@en`, "'c' @en": `"c"@en`, "\"\"@e-n-": `""@e-n-`, "'c'@prefix": `"c"@prefix`, "'c'@base": `"c"@base`, "'c'@" + x(8): `"c"@` + x(8), "'c'\n@a": `"c"@a`,
		`"c"^^<d>`: `"c"^^<d>`, "'c' ^^ <d>": `"c"^^<d>`, "''^^<d>": `""^^<d>`, "'c'^^<" + api.XInt + ">": `"c"^^int`, "'c'^^<./d>": `"c"^^<d>`, "'c'^^p:": `"c"^^<q>`, "'c'^^p:d": `"c"^^<qd>`, "'c'^^:": `"c"^^<r>`, "'c'^^:d": `"c"^^<rd>`,
		"'c'^^<>": `"c"`, "'c'^^e:": `"c"`, // what is resolved is nothing
		"'" + x(60) + "'": `"` + x(60) + `"`, "'" + strings.Repeat("\\n", 60) + "'": `"` + strings.Repeat("\\n", 60) + `"`, "'c'^^<" + x(60) + ">": `"c"^^<` + x(60) + ">",
	} {
		front := "@prefix p: <q> . @prefix : <r> . @prefix e: <> . "
		reads(t, front+"<a> <b> "+s+" .", "<a> <b> "+want)
		reads(t, front+"<a> <b>"+s+","+s+";<b>"+s+".", "<a> <b> "+want, "<a> <b> "+want, "<a> <b> "+want)
		reads(t, front+"[<b>"+s+"].", "_:n1 <b> "+want)
		reads(t, front+"<a> <b>("+s+" "+s+").", "_:n1 FIRST "+want, "_:n1 REST _:n2", "_:n2 FIRST "+want, "_:n2 REST NIL", "<a> <b> _:n1")
	}
	reads(t, "<a> <b> ('c' 'd'@e 'f''g'^^<h>'i') .", `_:n1 FIRST "c"`, "_:n1 REST _:n2", `_:n2 FIRST "d"@e`, "_:n2 REST _:n3", `_:n3 FIRST "f"`, "_:n3 REST _:n4", `_:n4 FIRST "g"^^<h>`, "_:n4 REST _:n5", `_:n5 FIRST "i"`, "_:n5 REST NIL", "<a> <b> _:n1")
	for _, s := range []string{"'c'@en@de", "'c'@en^^<d>", "'c'^^<d>@en", "'c'^^<d>^^<e>", "'c'^^", "'c'^^5", "'c'^^_:d", "'c'^^'d'", "'c'^^a", "'c'^^true", "'c'^^@en", "'c'^^[]", "'c'^^()", "'c'^^^^<d>", "'c'^<d>", "'c'^ ^<d>", "'c''d'", "'c'<d>", "'c' 5", "'c' d", "@en", "^^<d>", "@en'c'", "5@en", "5^^<d>", "true@en", "<c>@en", "_:c@en", "<c>^^<d>", "[]@en", "()^^<d>", "'c'@en 'd'", "-'5'", "+true"} {
		fails(t, "<a> <b> "+s+" .", "<a> <b> <c>, "+s+" .", "<a> <b> [ <c> "+s+" ] .", "[ <c> "+s+" ] .")
		if !slices.Contains([]string{"'c''d'", "'c'<d>", "'c' 5", "'c'@en 'd'"}, s) { // which are two
			fails(t, "<a> <b> ("+s+") .")
		}
	}
}

func TestNumbers(t *testing.T) {
	for s, want := range map[string]string{
		"5": `"5"^^int`, "0": `"0"^^int`, "007": `"007"^^int`, "5.0": `"5.0"^^dec`, "0.10": `"0.10"^^dec`, "00.00": `"00.00"^^dec`,
		"-5": `"-5"^^int`, "- 5": `"-5"^^int`, "-\n# a\n5": `"-5"^^int`, "-0": `"-0"^^int`, "-5.25": `"-5.25"^^dec`, "- 0.0": `"-0.0"^^dec`,
		"+5": `"5"^^int`, "+ 5": `"5"^^int`, "+5.25": `"5.25"^^dec`, "+ 0.0": `"0.0"^^dec`, "+0": `"0"^^int`,
		strings.Repeat("9", 60): `"` + strings.Repeat("9", 60) + `"^^int`, "+" + strings.Repeat("9", 60): `"` + strings.Repeat("9", 60) + `"^^int`, "-" + strings.Repeat("9", 59): `"-` + strings.Repeat("9", 59) + `"^^int`, "-" + strings.Repeat("9", 56) + ".25": `"-` + strings.Repeat("9", 56) + `.25"^^dec`,
		"true": `"true"^^bool`, "false": `"false"^^bool`,
	} {
		reads(t, "<a> <b> "+s+" .", "<a> <b> "+want)
		reads(t, "<a> <b>"+s+".", "<a> <b> "+want)
		reads(t, "<a> <b>"+s+","+s+";<b>"+s+";.", "<a> <b> "+want, "<a> <b> "+want, "<a> <b> "+want)
		reads(t, "[<b>"+s+"].", "_:n1 <b> "+want)
		reads(t, "<a> <b>("+s+" "+s+").", "_:n1 FIRST "+want, "_:n1 REST _:n2", "_:n2 FIRST "+want, "_:n2 REST NIL", "<a> <b> _:n1")
		fails(t, s, s+" <b> <c> .", "<a> "+s+" <c> .", "<a> <b> "+s+" "+s+" .", "<a> <b> 'c'^^"+s+" .", "["+s+" <c>] .", "<a> <b> <c>; "+s+" <d> .", "@base "+s+" .", "<a> <b> "+s+" <c> .", "<a> <b> "+s+" 'c' .")
	}
	reads(t, "<a> <b> 5. <a> <b> 5.5. <a> <b> -5.", `<a> <b> "5"^^int`, `<a> <b> "5.5"^^dec`, `<a> <b> "-5"^^int`)
	reads(t, "<a> <b> true.<a> <b> false.", `<a> <b> "true"^^bool`, `<a> <b> "false"^^bool`)
	fails(t, "<a> <b> - .", "<a> <b> + .", "<a> <b> -", "<a> <b> +", "<a> <b> --5 .", "<a> <b> ++5 .", "<a> <b> +-5 .", "<a> <b> -+5 .", "<a> <b> 5- .", "<a> <b> 5-5 .", "<a> <b> - '5' .", "<a> <b> -<c> .", "<a> <b> -_:c .", "<a> <b> -true .", "<a> <b> +a .", "<a> <b> -[] .", "<a> <b> -() .", "<a> <b> .5 .", "<a> <b> -.5 .", "<a> <b> 5.. ", "<a> <b> 1.2.3 .", "<a> <b> 1,5, .", "<a> <b> 5e3 .", "<a> <b> 0x1 .", "<a> <b> *5 .", "<a> <b> !true .", "<a> <b> 5/2 .", "<a> <b> -, 5 .", "<a> <b> (- 5 -) .",
		"<a> <b> True .", "<a> <b> FALSE .", "<a> <b> tru .", "<a> <b> true_ .", "<a> <b> falsely .", "<a> <b> null .")
}

// P1201: what does not fit where

// TestMisplaced: tokens at each place where they may not stand, and, so that it is seen that they may, where they do.
func TestMisplaced(t *testing.T) {
	const (
		asSubject = 1 << iota
		asVerb
		asObject
		asType
	)
	kinds := map[string]int{
		"<d>": asSubject | asVerb | asObject | asType, "p:d": asSubject | asVerb | asObject | asType, "p:": asSubject | asVerb | asObject | asType, "_:d": asSubject | asObject, "a": asVerb, "true": asObject, "false": asObject, "word": 0, "'d'": asObject, "'d'@en": asObject, "'d'^^<e>": asObject, "5": asObject, "5.5": asObject, "-5": asObject, "+5.5": asObject,
		"?d": 0, "$d": 0, "@en": 0, "^^": 0, "{": 0, "}": 0, ".": 0, ";": 0, ",": 0, "=": 0, "<": 0, ">": 0, "!": 0, "*": 0, "/": 0, "|": 0, "^": 0, "?": 0, "&&": 0, "||": 0, "!=": 0, "<=": 0, ">=": 0, ")": 0, "]": 0, "+": 0, "-": 0, "()": asSubject | asObject, "(1)": asSubject | asObject, "[]": asSubject | asObject, "[<e> 1]": asSubject | asObject, "@base": 0, "@prefix": 0,
	}
	for s, may := range kinds {
		front := "@prefix p: <q> . "
		for place, around := range map[int][][2]string{
			asSubject: {{"", " <b> <c> ."}, {"<a> <b> <c> . ", " <b> <c> ."}},
			asVerb:    {{"<a> ", " <c> ."}, {"<a> <b> <c>; ", " <c> ."}, {"[] ", " <c> ."}, {"[ ", " <c> ] ."}, {"<a> <b> [ ", " <c> ] ."}, {"() ", " <c> ."}, {"[ <a> <b>; ", " <c> ] ."}, {"[ <a> <b> ] ", " <c> ."}},
			asObject:  {{"<a> <b> ", " ."}, {"<a> a ", " ."}, {"<a> <b> <c>, ", " ."}, {"[ <b> ", " ] ."}, {"<a> <b> ( ", " ) ."}, {"<a> <b> ( _:x ", " <c> ) ."}, {"[] <b> ", " ."}, {"( ", " ) <b> <c> ."}, {"<a> <b> ", " ; ."}},
			asType:    {{"<a> <b> 'c'^^", " ."}, {"<a> <b> ('c'^^", ") ."}},
		} {
			for _, y := range around {
				whole := front + y[0] + s + y[1]
				_, e := turtle.Parse(whole, "", "n")
				if may&place == 0 {
					fails(t, whole)
				} else if e != api.OK {
					t.Errorf("P1201: %s: %v", clip(whole), e)
				}
				holds(t, whole)
			}
		}
		for y, fit := range map[string]string{"@prefix ": "", "@prefix r: ": "<d>", "@base ": "<d>", "@base <a> ": "", "@prefix r: <a> ": "", "<a> <b> - ": "5 5.5", "<a> <b> <c> ": ";"} {
			if !slices.Contains(strings.Fields(fit), s) {
				fails(t, front+y+s+" .")
			}
		}
	}
}

// P1201: ErrDeep

// nest tells, of '[' and '(' and what is within, an object.
func nest(marks string) string {
	if marks == "" {
		return "1"
	}
	if marks[0] == '[' {
		return "[<c> " + nest(marks[1:]) + "]"
	}
	return "(" + nest(marks[1:]) + ")"
}

// allMarks are all rows of so many '[' and '('.
func allMarks(n int) []string {
	l := []string{""}
	for range n {
		var m []string
		for _, s := range l {
			m = append(m, s+"[", s+"(")
		}
		l = m
	}
	return l
}

func TestDeep(t *testing.T) {
	for n := range 10 {
		for _, marks := range allMarks(n + 1) {
			all := len(marks) + strings.Count(marks, "(")
			counts(t, "<a> <b> "+nest(marks)+".", all+1)
			counts(t, nest(marks)+"<a> <b>.", all+1)
		}
	}
	for _, marks := range allMarks(11) {
		for _, front := range []string{"", "<a> <b> ", "<a> <b> [], (1), ", "[ <a> <b> ] <c> ", "(1) <c> "} {
			s := front + nest(marks)
			refuses(t, s+".", api.ErrDeep)
			last := max(strings.LastIndex(s, "["), strings.LastIndex(s, "("))
			refuses(t, s[:last+1], api.ErrDeep) // at once
			fails(t, s[:last])
		}
	}
	for _, n := range []int{12, 100, 1000, 1990} {
		refuses(t, "<a> <b> "+strings.Repeat("(", n), api.ErrDeep)
		refuses(t, strings.Repeat("(", n), api.ErrDeep)
		refuses(t, "[<c> "+strings.Repeat("(", n), api.ErrDeep)
	}
	refuses(t, "<a> <b> "+strings.Repeat("[<c>", 900), api.ErrDeep)
}

// TestDeepAgain: what is ended does not count.
func TestDeepAgain(t *testing.T) {
	ten, nine := nest("[([([([([("), strings.Repeat("(", 9)
	reads(t, "<a> <b> ()"+strings.Repeat(",()", 20)+".", slices.Repeat([]string{"<a> <b> NIL"}, 21)...)
	counts(t, "<a> <b> "+ten+","+ten+";<b>"+ten+"."+"<a> <b> "+ten+".", 64)
	counts(t, ten+"<b>"+ten+"."+ten+"<b>"+ten+".", 62)
	counts(t, nest("((((((((((")+"<b>"+nest("((((((((((")+".", 41)
	counts(t, "<a> <b> "+nine+"()()[][<c> 1]"+strings.Repeat(")", 9)+".", 26)
	for _, s := range []string{"()", "[]", "[<c> 1]", "(1)", "()()[]"} {
		refuses(t, "<a> <b> "+nine+s+"(()", api.ErrDeep)
		refuses(t, "<a> <b> "+nine+s+"(1 []", api.ErrDeep)
		refuses(t, "<a> <b> "+nine+s+"[<c> (", api.ErrDeep)
		refuses(t, "<a> <b> "+nine+s+"[<c> 1; <d> 2, [", api.ErrDeep)
		fails(t, "<a> <b> "+nine+s+"(", "<a> <b> "+nine+s+"[")
	}
	refuses(t, "<a> <b> "+ten+","+nest("[([([([([([")+".", api.ErrDeep)
	refuses(t, ten+"<b>"+nest("[([([([([([")+".", api.ErrDeep)
}

// P1201: ErrMany

// TestMany: of a row of objects, with blanks and collections at its end.
func TestMany(t *testing.T) {
	for n := most - 12; n <= most; n++ {
		row := "<a> <b> " + strings.Repeat("1,", n-1) + "1"
		counts(t, row+".", n)
		for tail, more := range map[string]int{
			",2": 1, ";<c> 2": 1, ".<c> <d> 2": 1, ",[]": 1, ",()": 1, ",(2)": 3, ",(2 3)": 5, ",(2 3 4)": 7, ",((2))": 5, ",[<c> 2]": 2, ",[<c> 2,3;<d> 4]": 4, ",([<c> 2])": 4, ",[<c> (2)]": 4, ".[<c> 2]": 1, ".[]<c> 2": 1, ".[<c> 2]<d> 3": 2, ".(2)<c> 3": 3, ".(2 3 4 5)<c> 6": 9, ".()<c> 2": 1, ".[]": 0, ".@prefix p: <q>": 0, ".@base <q>": 0, ",1,1,1,1,1,1,1,1,1": 9,
		} {
			if n+more <= most {
				counts(t, row+tail+".", n+more)
			} else {
				refuses(t, row+tail+".", api.ErrMany)
				refuses(t, row+tail+"?", api.ErrMany)
			}
		}
	}
	refuses(t, "<a> <b> "+strings.Repeat("1,", most)+"2.", api.ErrMany)
	refuses(t, "<a> <b> "+strings.Repeat("1,", 1900)+"2.", api.ErrMany)
	refuses(t, "<a> <b> ("+strings.Repeat("1 ", 1900), api.ErrMany)
	refuses(t, strings.Repeat("<a><b>1.", 400), api.ErrMany)
	refuses(t, strings.Repeat("[<a>1].", 400), api.ErrMany)
	counts(t, strings.Repeat("[<a>1].", most), most)
	counts(t, strings.Repeat("[].", 1300), 0)
}

// TestManyAtOnce: told as soon as the 301st triple would be, and no sooner.
func TestManyAtOnce(t *testing.T) {
	full := "<a> <b> " + strings.Repeat("1,", most-1) + "1" // as many as may be
	for tail, want := range map[string]api.Errno{
		",2": api.ErrMany, ",2?": api.ErrMany, ",[]": api.ErrMany, ",[<c>2": api.ErrMany, ",(2": api.ErrMany, ".(2": api.ErrMany, ".[<c>2": api.ErrMany, ";a<c>": api.ErrMany, ",'c'@en": api.ErrMany, ",'c'": api.ErrMany, ",()": api.ErrMany, ".()<c>2": api.ErrMany,
		"": api.ErrWord, ",": api.ErrWord, ",[": api.ErrWord, ",[<c>": api.ErrWord, ",(": api.ErrWord, ".(": api.ErrWord, ".(.": api.ErrWord, "?": api.ErrWord, ",?": api.ErrWord, ".?": api.ErrWord, ";<c>": api.ErrWord, ",-": api.ErrWord, ",'c'^^": api.ErrWord, ",'c'^^5": api.ErrWord, " 2": api.ErrWord, ".()": api.ErrWord, ".()<c>": api.ErrWord, ".[].": api.OK, ".[]": api.ErrWord, ".": api.OK, ";.": api.OK, ".[].[].": api.OK,
		",x:y": api.ErrName, ",[x:y": api.ErrName, ";x:y": api.ErrName, ".x:y": api.ErrName, ",(x:y": api.ErrName, ",'c'^^x:y": api.ErrName, ".@prefix p:<q>.p:a p:b": api.ErrWord, ".@prefix p:<q>.p:a p:b p:c": api.ErrMany, "," + nest("(((((((((("): api.ErrMany, "," + nest("((((((((((("): api.ErrDeep, "," + nest("[[[[[[[[[["): api.ErrMany, "," + nest("[[[[[[[[[[["): api.ErrDeep,
		",<>": api.ErrMany, ",'" + x(61) + "'": api.ErrMany, ";<> 2": api.ErrMany, ".<> <b> <c>": api.ErrMany, ",_:" + x(21): api.ErrMany, ".(<>": api.ErrMany, // whatever it has wrong
	} {
		if want == api.OK {
			counts(t, full+tail, most)
		} else {
			refuses(t, full+tail, want)
		}
	}
	for room, want := range map[int]api.Errno{0: api.ErrMany, 1: api.ErrMany, 2: api.ErrMany, 3: api.ErrArg, 4: api.ErrArg} { // a collection's RRest is told ahead of the next one's RFirst
		refuses(t, "<a> <b> "+strings.Repeat("1,", most-room)+"(2 <>", want)
	}
	for room, want := range map[int]api.Errno{0: api.ErrMany, 1: api.ErrArg, 2: api.ErrArg} {
		refuses(t, "<a> <b> "+strings.Repeat("1,", most-room)+"(<>", want)
		refuses(t, "<a> <b> "+strings.Repeat("1,", most-room)+"<>", want)
	}
}

// P1201: Fits

// misfits are objects that may not be, and Check's error of each.
func misfits() map[string]api.Errno {
	return map[string]api.Errno{
		"<>": api.ErrArg, "<.>": api.ErrArg, "<" + x(61) + ">": api.ErrLong, "<a:" + x(59) + ">": api.ErrLong, "<" + strings.Repeat("é", 31) + ">": api.ErrLong, "_:" + x(21): api.ErrArg, "_:" + x(60): api.ErrArg, "_:" + x(61): api.ErrLong, "e:": api.ErrArg, "p:" + x(60): api.ErrLong, "l:": api.ErrLong,
		"'" + x(61) + "'": api.ErrLong, "'" + strings.Repeat("é", 31) + "'": api.ErrLong, "'" + x(61) + "'@en": api.ErrLong, "'" + x(61) + "'^^<a>": api.ErrLong, "'c'@" + x(9): api.ErrLong, "'c'@x--------": api.ErrLong, "'c'^^<" + x(61) + ">": api.ErrLong, "'c'^^p:" + x(60): api.ErrLong, "'c'^^l:": api.ErrLong,
		strings.Repeat("9", 61): api.ErrLong, "-" + strings.Repeat("9", 60): api.ErrLong, "+" + strings.Repeat("9", 61): api.ErrLong, "- " + strings.Repeat("9", 57) + ".25": api.ErrLong,
	}
}

func TestMisfits(t *testing.T) {
	front := "@prefix p: <q> . @prefix e: <> . @prefix l: <" + x(61) + "> . "
	for s, want := range misfits() {
		for _, before := range []string{"<a> <b> ", "<a> a ", "_:a <b> <c>, ", "<a> <b> <c>; <d> ", "[] <b> ", "[ <b> ", "<a> <b> [ <c> ", "<a> <b> (", "<a> <b> (1 ", "(", "() <b> ", "[ <a> <b> ] <c> ", "<a> <b> ([ <c> "} {
			refuses(t, front+before+s, want) // as it is told: whatever is behind
			refuses(t, front+before+s+" .", want)
			refuses(t, front+before+s+" ?", want)
			refuses(t, front+before+s+" x:y .", want)
			refuses(t, front+before+s+" , 'c' , <> .", want)
		}
		for other, e := range misfits() { // and the first one of several
			refuses(t, front+"<a> <b> "+s+", "+other+" .", want)
			refuses(t, front+"<a> <b> "+other+" . <a> <b> "+s+" .", e)
		}
	}
	for s, want := range misfits() {
		if !strings.HasPrefix(s, "<") && !strings.HasPrefix(s, "_") && !strings.Contains(s[:2], ":") {
			continue
		}
		refuses(t, front+s+" <b> <c>", want) // subjects and predicates, once an object is there
		refuses(t, front+s+" <b> <c> ?", want)
		refuses(t, front+s+" a []", want)
		fails(t, front+s, front+s+" .", front+s+" <b>", front+s+" <b> .", front+s+" <b> ?", front+s+" <b> (", front+s+" <b> [", front+s+" <b> - .")
		refuses(t, front+s+" <b> x:y", api.ErrName)
		refuses(t, front+s+" x:y", api.ErrName)
		if strings.HasPrefix(s, "_") {
			continue
		}
		refuses(t, front+"<a> "+s+" <c>", want)
		refuses(t, front+"<a> <b> <c>; "+s+" <c> ?", want)
		refuses(t, front+"[ "+s+" <c>", want)
		refuses(t, front+"[] "+s+" 5", want)
		fails(t, front+"<a> "+s, front+"<a> "+s+" .", front+"<a> "+s+" ?", front+"[ "+s+" ] .", front+"<a> "+s+" (", front+"<a> <b> <c>; "+s+" .")
		for object, e := range misfits() { // a triple's terms in order
			refuses(t, front+s+" <b> "+object, want)
			refuses(t, front+"<a> "+s+" "+object, want)
			refuses(t, front+"_:"+x(21)+" "+s+" "+object, api.ErrArg)
			refuses(t, front+"_:"+x(61)+" "+s+" "+object, api.ErrLong)
			refuses(t, front+s+" "+s+" [ <a> "+object, e) // those within go ahead
			refuses(t, front+s+" "+s+" ( "+object, e)
		}
	}
}

// TestBaseMisfits: a base that makes references of ones that may not be.
func TestBaseMisfits(t *testing.T) {
	for base, want := range map[string]api.Errno{"a b/": api.ErrArg, "http://x y/": api.ErrArg, "<a>/": api.ErrArg, "a\n/": api.ErrArg, "a\\/": api.ErrArg, "\x00/": api.ErrArg, "http://" + x(60) + "/": api.ErrLong, x(60) + "/": api.ErrLong, " " + x(60) + "/": api.ErrLong, x(1<<20) + "/": api.ErrLong} {
		for s, where := range map[string]api.Errno{"": api.OK, "@base <a:> . <b> a <c> .": api.OK, "<a:b> a <c:d> .": api.OK, "@prefix p: <q> .": api.OK, "_:a a 'b' .": api.OK, "<a> a <c:d> .": want, "_:a <b> 'c' .": want, "_:a a <c> .": want, "_:a a 'c'^^<d> .": want, "@prefix p: <q> . _:a a p:b .": want, "@base <q> . _:a a <b> .": want, "<a> a .": api.ErrWord, "<a> a <b> ?": want, "_:a a 'c'^^<d> ?": want} {
			l, e := turtle.Parse(s, base, "n")
			if e != where || e != api.OK && len(l) != 0 {
				t.Errorf("P1201: %s of %s: %s %v, not %v", clip(s), clip(base), show(l), e, where)
			}
			agrees(t, s, base, "n")
		}
	}
	based(t, x(59)+"/", "<> a <.> .", "<"+x(59)+"/> TYPE <"+x(59)+"/>") // as long as may be
}

// P1201: which goes first

func TestFirst(t *testing.T) {
	long := "'" + x(61) + "'"
	for s, want := range map[string]api.Errno{
		"?a x:y": api.ErrWord, "x:y ?a": api.ErrName, "<a> ?b x:y .": api.ErrWord, "<a> x:y ?c .": api.ErrName, "<a> <b> x:y ?": api.ErrName, "<a> <b> ? x:y": api.ErrWord, "<a> <b> (x:y": api.ErrName, "<a> <b> [? x:y": api.ErrWord, ". x:y": api.ErrWord, "x:y .": api.ErrName,
		"<a> <b> " + long + " ?": api.ErrLong, "<a> <b> <> ?": api.ErrArg, "<a> <b> " + long + " x:y": api.ErrLong, "<a> <b> <>, x:y": api.ErrArg, "<a> <b> x:y, <>": api.ErrName, "<a> <b> 'c'^^x:y": api.ErrName, "<a> <b> " + long + "^^x:y": api.ErrName, "<a> <b> " + long + "^^5": api.ErrWord, "<a> <b> " + long + "@en^^": api.ErrLong, "<a> <b> " + long + "^^<c>@en": api.ErrLong, "<a> <b> 'c'@" + x(9) + " ?": api.ErrLong,
		"<> <b> <c> . <a> <b> " + long + " .": api.ErrArg, "<a> <b> " + long + " . <> <b> <c> .": api.ErrLong, "<> <> " + long + " .": api.ErrArg, "<a> <> " + long + " .": api.ErrArg, "<" + x(61) + "> <> <> .": api.ErrLong, "<a> <" + x(61) + "> <> .": api.ErrLong, "<> <b> ? ": api.ErrWord, "<> x:y <c>": api.ErrName, "<> <b> x:y": api.ErrName,
		"<a> <b> (<>": api.ErrArg, "<> <b> (" + long: api.ErrLong, "<> <b> (1 " + long: api.ErrLong, "<> <b> [ <c> " + long: api.ErrLong, "<> <b> [ <c> 1 ] ?": api.ErrArg, "<> <b> [ <c> 1 ?": api.ErrWord, "(<>) <b> <c>": api.ErrArg, "([<> 1]": api.ErrArg, "([<> ?": api.ErrWord, "<> <b> ()": api.ErrArg, "<> <b> (1)": api.ErrArg, "<> <b> []": api.ErrArg, "<> <b> (1 ]": api.ErrWord, "<> <b> [ ?": api.ErrWord,
		strings.Repeat("(", 10) + "?": api.ErrWord, strings.Repeat("(", 11) + "?": api.ErrDeep, strings.Repeat("(", 10) + "x:y": api.ErrName, strings.Repeat("(", 11) + "x:y": api.ErrDeep, strings.Repeat("(", 10) + "<>": api.ErrArg, strings.Repeat("(", 11) + "<>": api.ErrDeep, "? " + strings.Repeat("(", 11): api.ErrWord, "x:y " + strings.Repeat("(", 11): api.ErrName, "<a> <b> <>, " + strings.Repeat("(", 11): api.ErrArg, "<> <b> " + strings.Repeat("(", 11): api.ErrDeep,
		"<a> " + strings.Repeat("(", 11): api.ErrWord, "<a> <b> 5 " + strings.Repeat("(", 11): api.ErrWord, strings.Repeat("[", 11): api.ErrWord, strings.Repeat("[<c> ", 10) + "[": api.ErrDeep, strings.Repeat("[<c> ", 10) + "1 [": api.ErrWord, strings.Repeat("[<c> ", 9) + "[ [": api.ErrWord, strings.Repeat("[<c> ", 9) + "[ (": api.ErrWord, strings.Repeat("[<c> ", 10) + "1; (": api.ErrWord, strings.Repeat("[<c> ", 10) + "1, (": api.ErrDeep, strings.Repeat("(", 9) + "[ (": api.ErrWord, strings.Repeat("(", 10) + "1 (": api.ErrDeep, strings.Repeat("(", 10) + "1; (": api.ErrWord, "[ <a> <b> ] <c> <d> " + strings.Repeat("(", 11): api.ErrWord, "<a> <b> 'c'^^" + strings.Repeat("(", 11): api.ErrWord, "@base " + strings.Repeat("(", 11): api.ErrWord, "<a> <b> - " + strings.Repeat("(", 11): api.ErrWord,
	} {
		refuses(t, s, want)
		refuses(t, "<a> <b> <c> . [] . @prefix p: <q> . "+s, want)
		refuses(t, s+" <> ! x:y ((((((((((( '"+x(61)+"' .", want)
	}
	fails(t, "<> <b> (", "<> <b> (1", "<> <b> [", "<a> <b> "+long+"^^", "<> <b> -") // at the text's end
}

// P1 to P7

// samples are texts of all kinds.
func samples() []string {
	return []string{
		"", " # a\n", "<a> <b> <c> .", "<a> <b> 5 .", "_:x a _:y, 'z';;<b> -5.25, + 1;.", "@prefix : <p#> . @prefix q: <r/> . :a q:b :c.d .", "@base <q/> . <a> <b> \"c\"^^<t> . @base <../> . <> <?b> 'd'@en .", "@prefix p: <q> . p:a p: 'x'^^p:t ; a [ ] .",
		"[ <a> <b>; <c> [ <d> (1 true) ] ] <e> [] .", "() <b> (([<c> 'd'])) . [] .", "<> <> <> . x:y", "((((((((((())))))))))) <a> <b> .",
	}
}

// TestOwnMemory (P2): texts that were made of bytes that change later, and answers that are changed.
func TestOwnMemory(t *testing.T) {
	for _, s := range append(samples(), "@prefix p: <> . <abcd> p:abcd \"abcd\", _:abcd, 'abcd'@abcd, 'abcd'^^<abcd>, 'abcd'^^p:abcd, 1234, -1234, true, [], (1) .") {
		for _, base := range []string{"", "http://x/y/z", "abcd:"} {
			for _, label := range []string{"", "n", "abcd"} {
				var kept [][]byte
				of := func(s string) string {
					b := []byte(s)
					kept = append(kept, b)
					return unsafe.String(unsafe.SliceData(b), len(b))
				}
				l, e := turtle.Parse(of(s), of(base), of(label))
				for i, was := range []string{s, base, label} {
					if string(kept[i]) != was {
						t.Errorf("P2: %s is changed: %s", clip(was), clip(string(kept[i])))
					}
					for k := range kept[i] {
						kept[i][k] = '?'
					}
				}
				want, f, _ := parse(s, base, label)
				if e != f || !slices.Equal(l, want) {
					t.Errorf("P2: %s of %s, %s is kept: %s", clip(s), clip(base), clip(label), show(l))
				}
				clear(l[:cap(l)])
				agrees(t, s, base, label)
			}
		}
	}
}

// TestSideBySide (P3, P7): the same calls answer the same, many at once too.
func TestSideBySide(t *testing.T) {
	var w sync.WaitGroup
	for range 8 {
		w.Go(func() {
			for range 50 {
				for _, s := range samples() {
					holds(t, s)
				}
			}
		})
	}
	w.Wait()
}

// TestAnyLong (P1, P1202): long texts that begin much, and end little.
func TestAnyLong(t *testing.T) {
	for _, s := range []string{"<a>", "<a> <b> <c>", "<a> <b> <c>.", "<a> <b> <c>;", "<a> <b> <c>,", "[", "]", "[]", "[].", "[<c>", "[<c>[", "(", ")", "()", "() ", "(1)", "((", "([<c>", "1 ", "-", "+ ", "'", "''", "'x'@en", "^^", "@prefix ", "@prefix p:<q>.", "@base<q/>.", "@base<../>.", ";", ",", ".", "a ", "a:", ":a", ": ", "_:a ", "true ", "?", "{", "#", "#\n", "\xff", "<", ">", "é", "\x00"} {
		for _, front := range []string{"", "<a> ", "<a> <b> ", "<a> <b> <c>; ", "<a> <b> (", "(", "[", "<a> <b> [ <c> ", "[] <a> "} {
			holds(t, front+strings.Repeat(s, (longest-len(front))/len(s)))
			holds(t, front+strings.Repeat(s, longest))
			agrees(t, front+strings.Repeat(s, (longest-len(front))/len(s)), x(20000)+"/../y", x(20000))
		}
	}
}
