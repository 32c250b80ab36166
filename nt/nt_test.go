package nt_test

import (
	"math"
	"regexp"
	"slices"
	"strconv"
	"strings"
	"sync"
	"testing"
	"unsafe"

	"triad/api"
	"triad/nt"
	"triad/term"
)

// longest is how many bytes a text may have.
const longest = 16000

func x(n int) string { return strings.Repeat("x", n) }

func lit(s string) api.Term { return api.Term{Kind: api.Literal, S: s} }

func iri(s string) api.Term { return api.Term{Kind: api.Iri, S: s} }

func node(s string) api.Term { return api.Term{Kind: api.Blank, S: s} }

func lang(s, l string) api.Term { return api.Term{Kind: api.Literal, S: s, Lang: l} }

func typed(s, y string) api.Term { return api.Term{Kind: api.Literal, S: s, Type: y} }

// abc is the triple of most lines here.
var abc = api.Triple{iri("a"), iri("b"), iri("c")}

// of is abc with another object.
func of(o api.Term) api.Triple { return api.Triple{iri("a"), iri("b"), o} }

// clip tells a text for a fault.
func clip(s string) string {
	if len(s) > 90 {
		s = s[:60] + ".." + strconv.Itoa(len(s)) + ".." + s[len(s)-10:]
	}
	return strconv.Quote(s)
}

// show tells triples for a fault.
func show(l []api.Triple) string {
	var b strings.Builder
	for _, t := range l {
		b.WriteString("[")
		for _, y := range t {
			b.WriteString(strconv.Itoa(y.Kind) + " " + strconv.Quote(y.S) + " " + strconv.Quote(y.Lang) + " " + strconv.Quote(y.Type) + "; ")
		}
		b.WriteString("] ")
	}
	return strconv.Itoa(len(l)) + " " + b.String()
}

// reads tells a fault where Parse answers other triples, or anything beside them.
func reads(t *testing.T, s string, want ...api.Triple) {
	t.Helper()
	l, line, e := nt.Parse(s)
	if !slices.Equal(l, want) || line != 0 || e != api.OK {
		t.Errorf("P901: %s: %s, line %d, %v, not %s", clip(s), show(l), line, e, show(want))
	}
}

// refuses tells a fault where Parse answers another error, or another line, or triples.
func refuses(t *testing.T, s string, at int, want api.Errno) {
	t.Helper()
	l, line, e := nt.Parse(s)
	if len(l) != 0 || line != at || e != want {
		t.Errorf("P901: %s: %s, line %d, %v, not %d, %v", clip(s), show(l), line, e, at, want)
	}
}

// writes tells a fault where Write answers another text.
func writes(t *testing.T, want string, l ...api.Triple) {
	t.Helper()
	if got := nt.Write(l); got != want {
		t.Errorf("P902: %s: %s, not %s", show(l), clip(got), clip(want))
	}
}

// The chapter's own words, as patterns: of texts whose runes are the bytes.

var (
	termForm  = regexp.MustCompile(`^(?s:<([^>]*)>|(_:)([A-Za-z0-9_]*)|(")((?:[^"\\]|\\[tnr"\\])*)"(?:@([a-z-]*)|\^\^<([^>]*)>)?)`)
	blankForm = regexp.MustCompile(`^[ \t]*`)
	endForm   = regexp.MustCompile(`^[ \t]*(?s:#.*)?$`)
	unescape  = strings.NewReplacer(`\t`, "\t", `\n`, "\n", `\r`, "\r", `\"`, `"`, `\\`, `\`)
)

// wide is a text whose runes are the bytes of another, narrow is that other again.
func wide(s string) string {
	var l []rune
	for i := range len(s) {
		l = append(l, rune(s[i]))
	}
	return string(l)
}

func narrow(s string) string {
	var b []byte
	for _, r := range s {
		b = append(b, byte(r))
	}
	return string(b)
}

// lines are those of a text, without their ends.
func lines(s string) []string {
	l := strings.Split(s, "\n")
	for i := range l[:len(l)-1] {
		if strings.HasSuffix(l[i], "\r") {
			l[i] = l[i][:len(l[i])-1]
		}
	}
	return l
}

// parse is Parse by these.
func parse(s string) (l []api.Triple, line int, e api.Errno) {
	if len(s) > longest {
		return nil, 0, api.ErrLong
	}
	for i, y := range lines(s) {
		t, there, e := one(wide(y))
		if e != api.OK {
			return nil, i + 1, e
		}
		if there {
			l = append(l, t)
		}
	}
	return l, 0, api.OK
}

// one is the triple of a line, if there is one.
func one(s string) (t api.Triple, there bool, e api.Errno) {
	if endForm.MatchString(s) {
		return t, false, api.OK
	}
	for i := range t {
		s = s[len(blankForm.FindString(s)):]
		m := termForm.FindStringSubmatch(s)
		if m == nil {
			return t, false, api.ErrWord
		}
		switch {
		case m[2] != "":
			t[i] = node(narrow(m[3]))
		case m[4] != "":
			t[i] = api.Term{Kind: api.Literal, S: narrow(unescape.Replace(m[5])), Lang: narrow(m[6]), Type: narrow(m[7])}
		default:
			t[i] = iri(narrow(m[1]))
		}
		s = s[len(m[0]):]
	}
	s = s[len(blankForm.FindString(s)):]
	if s == "" || s[0] != '.' || !endForm.MatchString(s[1:]) {
		return t, false, api.ErrWord
	}
	return t, true, term.Fits(t)
}

// set is W2 by inserting one after the other.
func set(l []api.Triple) []api.Triple {
	var g []api.Triple
	for _, t := range l {
		at := 0
		for at < len(g) && ahead(g[at], t) {
			at++
		}
		if at == len(g) || g[at] != t {
			g = slices.Insert(g, at, t)
		}
	}
	return g
}

func ahead(a, b api.Triple) bool {
	for i := range a {
		if n := term.Compare(a[i], b[i]); n != 0 {
			return n < 0
		}
	}
	return false
}

// write is Write by P902.
func write(l []api.Triple) string {
	var b strings.Builder
	for _, t := range set(l) {
		b.WriteString(term.Text(t[0]) + " " + term.Text(t[1]) + " " + term.Text(t[2]) + " .\n")
	}
	return b.String()
}

// P901: length

func TestNothing(t *testing.T) {
	reads(t, "")
	for _, s := range []string{"\n", "\r\n", " ", "\t", " \t \t", "#", "# a", "\n\n\n", " \n\t\n", "\r\n\r\n", " \r\n \t \r\n", "#\n#", "#\r\n\n # \" < _: \\ . \r\n\t#", "\n ", "# \r # \x00 \xff é \\ \"", "#\r", "##", "#.", "# <a> <b> <c> ."} {
		reads(t, s)
		reads(t, s+"\n<a> <b> <c> .", abc)
		reads(t, "<a> <b> <c> .\n"+s, abc)
		reads(t, "<a> <b> <c> .\n"+s+"\n<a> <b> <c> .\n"+s, abc, abc)
	}
}

func TestLength(t *testing.T) {
	line := "<a> <b> <c> .\n"
	for _, s := range []string{" ", "\t", "\n", "#"} {
		reads(t, strings.Repeat(s, longest))
		refuses(t, strings.Repeat(s, longest+1), 0, api.ErrLong)
		reads(t, line+strings.Repeat(s, longest-len(line)), abc)
		refuses(t, line+strings.Repeat(s, longest-len(line)+1), 0, api.ErrLong)
		refuses(t, line+strings.Repeat(s, 70000), 0, api.ErrLong)
	}
	reads(t, "#"+strings.Repeat("é", longest/2-1)+"x")
	refuses(t, "#"+strings.Repeat("é", longest/2), 0, api.ErrLong) // bytes, not signs
	reads(t, strings.Repeat(" ", longest-13)+line[:13], abc)
	refuses(t, strings.Repeat(" ", longest-13)+line, 0, api.ErrLong)
	short := "<a><b><c>.\n"
	reads(t, strings.Repeat(short, longest/len(short)), slices.Repeat([]api.Triple{abc}, longest/len(short))...)
}

// TestLengthFirst: it goes ahead of what the lines have wrong, and nothing of a text that is as long as may be is left out.
func TestLengthFirst(t *testing.T) {
	for _, s := range []string{"x", "<a> <b> <> .", "\"a\" <b> <c> .", "<a> <b> <" + x(61) + "> ."} {
		refuses(t, s+strings.Repeat("\n", longest+1-len(s)), 0, api.ErrLong)
		refuses(t, strings.Repeat("\n", longest+1-len(s))+s, 0, api.ErrLong)
		_, _, e := nt.Parse(s)
		refuses(t, s+strings.Repeat("\n", longest-len(s)), 1, e)
		refuses(t, strings.Repeat("\n", longest-len(s))+s, longest-len(s)+1, e)
	}
	refuses(t, strings.Repeat(" ", longest-1)+"x", 1, api.ErrWord)
	refuses(t, strings.Repeat("\n", longest-1)+"x", longest, api.ErrWord)
}

// P901: lines

func TestLineEnds(t *testing.T) {
	def := api.Triple{node("d"), iri("e"), lit("f")}
	for _, s := range []string{
		"<a> <b> <c> .\n_:d <e> \"f\" .", "<a> <b> <c> .\n_:d <e> \"f\" .\n", "<a> <b> <c> .\r\n_:d <e> \"f\" .", "<a> <b> <c> .\r\n_:d <e> \"f\" .\r\n",
		"<a> <b> <c> . \r\n_:d <e> \"f\" .\t\r\n", "<a> <b> <c> .#\r\n_:d <e> \"f\" .#\r\n", "<a> <b> <c> .#\r\r\n_:d <e> \"f\" .#\r", "\r\n<a> <b> <c> .\n\r\n\n_:d <e> \"f\" .\n\r\n",
	} {
		reads(t, s, abc, def)
	}
}

// TestReturns: a carriage return counts, but for the one ahead of a line feed; it is no blank.
func TestReturns(t *testing.T) {
	for _, s := range []string{
		"\r", " \r", "\r ", "\r\r", "<a> <b> <c> .\r", "<a> <b> <c> . \r", "\r<a> <b> <c> .", "<a>\r<b> <c> .", "<a> <b>\r<c> .", "<a> <b> <c>\r.", "<a> <b> \"c\r", "<a> <b> <c\r",
		"\r#", "<a> <b> <c> .\r#", "\"a\"\r@en <b> <c> .", "<a> <b> \"c\"\r^^<d> .",
	} {
		refuses(t, s, 1, api.ErrWord)
		refuses(t, s+"\r\n", 1, api.ErrWord)
		refuses(t, "<a> <b> <c> .\r\n"+s, 2, api.ErrWord)
		refuses(t, s+"\r\n<a> <b> <c> .", 1, api.ErrWord)
	}
	for _, s := range []string{"\r\r\n", " \r\r\n", "\r \n", "<a> <b> <c> .\r\r\n", "<a> <b> <c> .\r \n", "<a> <b> <c>\r\n.", "<a> <b>\r\n<c> .", "\n\r"} {
		refuses(t, s, 1+strings.Count(s, "\n\r"), api.ErrWord)
	}
	for _, s := range []string{"\r", "\r\r", "a\r", "\ra", "a\rb\rc", "\r\t"} {
		reads(t, "<a> <b> \""+s+"\" .\r\n", of(lit(s)))
		reads(t, "<a> <b> \""+s+"\" .", of(lit(s)))
		refuses(t, "<a> <b> <"+s+"> .", 1, api.ErrArg)
	}
}

// TestFeeds: a line feed ends a line, in a term too.
func TestFeeds(t *testing.T) {
	for _, s := range []string{"<a>\n<b> <c> .", "<a> <b>\n<c> .", "<a> <b> <c>\n.", "<a\n> <b> <c> .", "<a> <b> \"c\n\" .", "<a> <b> \"c\\\n\" .", "<a> <b> \"c\"^\n^<d> .", "<a> <b> \"c\"^^<\nd> .", "_\n:a <b> <c> .", "<a> <b> \"\n\" ."} {
		for _, more := range []string{"", "\n", "\r\n", "\n<a> <b> <c> ."} {
			refuses(t, s+more, 1, api.ErrWord)
		}
		refuses(t, strings.ReplaceAll(s, "\n", "\r\n"), 1, api.ErrWord)
	}
	refuses(t, "<a> <b> <c> .\n.", 2, api.ErrWord)
	refuses(t, "<a> <b> \"c\" .\n@en .", 2, api.ErrWord)
	reads(t, "# <a> <b>\n<a> <b> <c> .", abc)
	for _, s := range []string{"\v", "\f", "\u0085", "\u2028", "\u2029", "\x85", "\x00"} { // ends of lines elsewhere
		refuses(t, "<a> <b> <c> ."+s+"<a> <b> <c> .", 1, api.ErrWord)
		refuses(t, "<a> <b> <c> ."+s, 1, api.ErrWord)
		reads(t, "#"+s+"<a> <b> <c> .")
		reads(t, "<a> <b> \""+s+"\" .", of(lit(s)))
	}
}

// P901: blanks and remarks

// parts are those of lines that may be, and what they tell.
func parts() map[[3]string]api.Triple {
	return map[[3]string]api.Triple{
		{"<a>", "<b>", "<c>"}: abc, {"_:a", "<b>", "_:c"}: {node("a"), iri("b"), node("c")}, {"<a>", "<b>", `"c"`}: of(lit("c")),
		{"<a>", "<b>", `"c"@en`}: of(lang("c", "en")), {"<a>", "<b>", `"c"^^<d>`}: of(typed("c", "d")), {"_:_", "<#.>", `"# . "`}: {node("_"), iri("#."), lit("# . ")},
	}
}

func TestBlanks(t *testing.T) {
	for p, want := range parts() {
		for _, b := range []string{"", " ", "\t", "  ", "\t\t", " \t", "\t \t ", strings.Repeat(" ", 1000)} {
			for at := range 5 {
				gaps := [5]string{}
				gaps[at] = b
				reads(t, gaps[0]+p[0]+gaps[1]+p[1]+gaps[2]+p[2]+gaps[3]+"."+gaps[4], want)
			}
			reads(t, b+p[0]+b+p[1]+b+p[2]+b+"."+b, want)
			reads(t, b+p[0]+b+p[1]+b+p[2]+b+"."+b+"#"+b, want)
			reads(t, b+p[0]+b+p[1]+b+p[2]+b+"."+b+"\r\n"+b+"#\n", want)
		}
	}
}

// TestNoBlanks: other bytes part no words, and do not stand at the ends.
func TestNoBlanks(t *testing.T) {
	for p := range parts() {
		for i := range 256 {
			b := string([]byte{byte(i)})
			if strings.Contains(" \t\n", b) {
				continue
			}
			tells(t, b+p[0]+" "+p[1]+" "+p[2]+" .")
			tells(t, p[0]+b+p[1]+" "+p[2]+" .")
			tells(t, p[0]+" "+p[1]+b+p[2]+" .")
			tells(t, p[0]+" "+p[1]+" "+p[2]+b+".")
			tells(t, p[0]+" "+p[1]+" "+p[2]+" ."+b)
			if b != "#" {
				refuses(t, p[0]+" "+p[1]+" "+p[2]+" ."+b, 1, api.ErrWord)
				refuses(t, p[0]+" "+p[1]+" "+p[2]+" . "+b+"# c", 1, api.ErrWord)
			}
			if b != "#" && b != "\r" {
				refuses(t, b, 1, api.ErrWord)
				refuses(t, b+" \n", 1, api.ErrWord)
			}
			if b != "<" { // which takes all up to the next one's end
				refuses(t, p[0]+" "+b+" "+p[1]+" "+p[2]+" .", 1, api.ErrWord)
			}
			refuses(t, p[0]+" "+p[1]+" "+p[2]+" "+b+" .", 1, api.ErrWord)
		}
	}
	for _, b := range []string{"\u00a0", "\u2003", "\ufeff", "\u3000"} {
		refuses(t, b+"<a> <b> <c> .", 1, api.ErrWord)
		refuses(t, "<a>"+b+"<b> <c> .", 1, api.ErrWord)
		refuses(t, "<a> <b> <c> ."+b, 1, api.ErrWord)
		refuses(t, b, 1, api.ErrWord)
	}
}

func TestRemarks(t *testing.T) {
	for _, s := range []string{"#", "# c", "##", "#.", "# <a> <b> <c> .", "#\"", "#\\", "#\x00\xff\xc3", "#é", "#\t", "#\rx", "#" + x(5000)} {
		reads(t, s)
		reads(t, " \t"+s)
		reads(t, "<a> <b> <c> ."+s, abc)
		reads(t, "<a> <b> <c> . \t"+s, abc)
		reads(t, "<a> <b> <c> . \t"+s+"\n"+s+"\n<a><b><c>."+s, abc, abc)
		for _, y := range []string{"<a> " + s, "<a>" + s, "<a> <b> " + s, "<a> <b> <c> " + s, "<a> <b> <c>" + s, "<a> <b> \"c\"" + s, "<a> <b> _:c" + s, "_:a" + s} {
			refuses(t, y, 1, api.ErrWord)
			refuses(t, y+"\n.", 1, api.ErrWord)
		}
	}
	reads(t, `<#a> <b#> "#"^^<c#d> .`, api.Triple{iri("#a"), iri("b#"), typed("#", "c#d")})
	refuses(t, "<a> <b> <c #> .", 1, api.ErrArg)
}

// P901: terms

func TestTerms(t *testing.T) {
	for s, want := range map[string]api.Term{
		"<a>": iri("a"), "<http://a.b/c?d=e#f>": iri("http://a.b/c?d=e#f"), "<.>": iri("."), "<_:a>": iri("_:a"), "<\xff\x80é\x7f>": iri("\xff\x80é\x7f"), "<" + x(60) + ">": iri(x(60)),
		"_:a": node("a"), "_:A": node("A"), "_:0": node("0"), "_:_": node("_"), "_:aZ_09z": node("aZ_09z"), "_:" + x(20): node(x(20)), "_:__": node("__"),
		`""`: lit(""), `"a"`: lit("a"), `" "`: lit(" "), `"a b"`: lit("a b"), `"<a>"`: lit("<a>"), `"_:a"`: lit("_:a"), `"'"`: lit("'"), "\"\t\"": lit("\t"), "\"\x00\xff\xc3\"": lit("\x00\xff\xc3"), `"é"`: lit("é"), `"` + x(60) + `"`: lit(x(60)),
		`""@en`: lang("", "en"), `"a"@e`: lang("a", "e"), `"a"@en-us`: lang("a", "en-us"), `"a"@e--`: lang("a", "e--"), `"a"@` + x(8): lang("a", x(8)), `"@en"@de`: lang("@en", "de"), `"a\""@en`: lang(`a"`, "en"),
		`""^^<a>`: typed("", "a"), `"5"^^<` + api.XInt + ">": typed("5", api.XInt), `"a"^^<é>`: typed("a", "é"), `"a"^^<` + x(60) + ">": typed("a", x(60)), `"^^<a>"^^<b>`: typed("^^<a>", "b"), `"\\"^^<a>`: typed(`\`, "a"),
		`"a"@`: lit("a"), `"a"^^<>`: lit("a"), `""@`: lit(""), `""^^<>`: lit(""),
	} {
		reads(t, "<a> <b> "+s+" .", of(want))
		reads(t, "<a><b>"+s+".", of(want))
		switch want.Kind {
		case api.Iri:
			reads(t, s+s+s+".", api.Triple{want, want, want})
		case api.Blank:
			reads(t, s+"<b>"+s+".", api.Triple{want, iri("b"), want})
			refuses(t, s+" "+s+" "+s+".", 1, api.ErrKind)
			refuses(t, s+s+s+".", 1, api.ErrWord) // the next one's first byte still belongs to the label, its second to nothing
		case api.Literal:
			refuses(t, s+"<b><c>.", 1, api.ErrKind)
			refuses(t, s+s+s+".", 1, api.ErrKind)
		}
	}
}

// TestEscapes goes through every byte behind a backslash, and every byte that stands in quotes alone.
func TestEscapes(t *testing.T) {
	meant := map[byte]string{'t': "\x09", 'n': "\x0a", 'r': "\x0d", '"': `"`, '\\': `\`}
	for i := range 256 {
		c := byte(i)
		s := string([]byte{c})
		for _, ends := range [][2]string{{"", ""}, {"a", ""}, {"", "a"}, {"a", "b"}, {"\xc3", "\xa9"}, {" ", " "}} {
			line := `<a> <b> "` + ends[0] + `\` + s + ends[1] + `" .`
			bare := `<a> <b> "` + ends[0] + s + ends[1] + `" .`
			if m, ok := meant[c]; ok {
				reads(t, line, of(lit(ends[0]+m+ends[1])))
				reads(t, strings.Replace(line, `" .`, `"@en .`, 1), of(lang(ends[0]+m+ends[1], "en")))
			} else {
				refuses(t, line, 1, api.ErrWord)
			}
			if c != '"' && c != '\\' && c != '\n' {
				reads(t, bare, of(lit(ends[0]+s+ends[1])))
			} else {
				tells(t, bare)
			}
		}
	}
	reads(t, `<a> <b> "\t\n\r\"\\" .`, of(lit("\t\n\r\"\\")))
	reads(t, `<a> <b> "\\t\\\t\\\\n" .`, of(lit("\\t\\\t\\\\n")))
	reads(t, `<a> <b> "\"" .`, of(lit(`"`)))
	reads(t, `<a> <b> "\\" .`, of(lit(`\`)))
	reads(t, `<a> <b> "`+strings.Repeat(`\t`, 60)+`" .`, of(lit(strings.Repeat("\t", 60)))) // 60 bytes, when they are read
	refuses(t, `<a> <b> "`+strings.Repeat(`\t`, 61)+`" .`, 1, api.ErrLong)
	refuses(t, `<a> <b> "\\\" .`, 1, api.ErrWord)
	refuses(t, `<a> <b> "\é" .`, 1, api.ErrWord)
	for _, s := range []string{`\`, `a\`, `\\\`, `\"\`} {
		refuses(t, `<a> <b> "`+s, 1, api.ErrWord)
		refuses(t, `<a> <b> "`+s+"\n\" .", 1, api.ErrWord)
		refuses(t, `<a> <b> "`+s+`" .`, 1, api.ErrWord)
	}
	refuses(t, `<a> <\t> <b> .`, 1, api.ErrArg) // in an IRI a backslash is one
	refuses(t, `<a> <b> "a"^^<\t> .`, 1, api.ErrArg)
	refuses(t, `<a> <b> <\>> .`, 1, api.ErrWord)
}

// TestRows goes through every byte in and behind a label and a language: the row ends at the first one that may not be there.
func TestRows(t *testing.T) {
	for i := range 256 {
		c := byte(i)
		s := string([]byte{c})
		small := 'a' <= c && c <= 'z'
		inLabel := small || 'A' <= c && c <= 'Z' || '0' <= c && c <= '9' || c == '_'
		if inLabel {
			reads(t, "_:"+s+" <b> _:x"+s+"y.", api.Triple{node(s), iri("b"), node("x" + s + "y")})
		} else {
			tells(t, "_:"+s+" <b> <c> .")
			tells(t, "<a> <b> _:x"+s)
			tells(t, "<a> <b> _:x"+s+".")
			tells(t, "_:x"+s+"b> <c> .")
		}
		if small || c == '-' {
			reads(t, "<a> <b> \"c\"@x"+s+".", of(lang("c", "x"+s)))
			reads(t, "<a> <b> \"c\"@x"+s+"y .", of(lang("c", "x"+s+"y")))
		} else {
			tells(t, "<a> <b> \"c\"@"+s)
			tells(t, "<a> <b> \"c\"@x"+s)
			tells(t, "<a> <b> \"c\"@x"+s+".")
			tells(t, "\"c\"@x"+s+"b> <c> .")
		}
		if !inLabel && !strings.Contains(" \t.", s) {
			refuses(t, "<a> <b> _:x"+s+".", 1, api.ErrWord)
		}
		if !small && !strings.Contains("- \t.", s) {
			refuses(t, "<a> <b> \"c\"@x"+s+".", 1, api.ErrWord)
		}
	}
	refuses(t, "<a> <b> _:é .", 1, api.ErrWord)
	refuses(t, "<a> <b> \"c\"@é .", 1, api.ErrWord)
	refuses(t, "<a> <b> \"c\"@eN .", 1, api.ErrWord)
	refuses(t, "<a> <b> \"c\"@en1 .", 1, api.ErrWord)
	refuses(t, "<a> <b> \"c\"@en_us .", 1, api.ErrWord)
	refuses(t, "<a> <b> _:a-b .", 1, api.ErrWord)
	refuses(t, "_:a_:b <c> <d> .", 1, api.ErrWord)
	reads(t, "_:a<b>_:c.", api.Triple{node("a"), iri("b"), node("c")})
	refuses(t, "<a> <b> _:c.d .", 1, api.ErrWord)
}

// TestIris goes through every byte in angles: any may stand there, and Fits tells the rest.
func TestIris(t *testing.T) {
	for i := range 256 {
		c := byte(i)
		s := string([]byte{c})
		for _, y := range []string{s, "a" + s, s + "a", "a" + s + "a"} {
			tells(t, "<"+y+"> <b> <c> .")
			tells(t, "<a> <"+y+"> <c> .")
			tells(t, "<a> <b> <"+y+"> .")
			tells(t, "<a> <b> \"c\"^^<"+y+"> .")
			if c == '\n' || c == '>' {
				continue
			}
			if e := term.Check(iri(y)); e == api.OK {
				reads(t, "<"+y+"> <b> \"c\"^^<"+y+"> .", api.Triple{iri(y), iri("b"), typed("c", y)})
			} else {
				refuses(t, "<"+y+"> <b> <c> .", 1, e)
				refuses(t, "<a> <b> \"c\"^^<"+y+"> .", 1, e)
			}
		}
	}
	refuses(t, "<<a> <b> <c> .", 1, api.ErrArg)
	refuses(t, "<a>> <b> <c> .", 1, api.ErrWord)
}

// tells tells a fault where Parse and the chapter's own words differ.
func tells(t *testing.T, s string) {
	t.Helper()
	l, line, e := nt.Parse(s)
	l2, line2, e2 := parse(s)
	if !slices.Equal(l, l2) || line != line2 || e != e2 {
		t.Errorf("P901: %s: %s, line %d, %v, not %s, line %d, %v", clip(s), show(l), line, e, show(l2), line2, e2)
	}
}

// P901: what does not fit

// samples are lines that have a triple.
func samples() []string {
	return []string{
		"<a> <b> <c> .", "<a><b><c>.", " <a>\t<b>  <c> \t. # c", "_:a <b> _:c_9 .", "_:a<b>_:c.", `<a> <b> "c" .`, `<a> <b> "" .`, `<a> <b> "c"@en .`, `<a><b>"c"@e-n.#`,
		`<a> <b> "c"^^<d> .`, `<a><b>"c"^^<d>.`, `<a> <b> "c\t\n\r\"\\d"@en .`, `<a> <b> "\\"^^<d> .`, `<a> <b> "c"@ .`, `<a> <b> "c"^^<> .`, "<a> <b> \"\r\xc3\xa9\x00\" .",
	}
}

// TestEachByte puts every byte at each place of a line, between its bytes and for them.
func TestEachByte(t *testing.T) {
	for _, s := range samples() {
		for at := range len(s) + 1 {
			for i := range 256 {
				c := string([]byte{byte(i)})
				tells(t, s[:at]+c+s[at:])
				tells(t, s[:at]+c+s[min(at+1, len(s)):])
			}
		}
	}
}

// TestCut cuts lines off at each place, and leaves out each stretch of up to six bytes.
func TestCut(t *testing.T) {
	for _, s := range samples() {
		dot := strings.LastIndexByte(s, '.')
		for at := range len(s) {
			if strings.Trim(s[:at], " \t") != "" && at <= dot {
				refuses(t, s[:at], 1, api.ErrWord)
				refuses(t, "\n#\n"+s[:at]+"\r\n"+s, 3, api.ErrWord)
			}
			tells(t, s[:at])
			tells(t, s[at:])
			for n := 1; n <= 6 && at+n <= len(s); n++ {
				tells(t, s[:at]+s[at+n:])
				tells(t, s[:at+n]+s[at:])
			}
		}
	}
}

// TestDot: one that lacks, or has something behind it.
func TestDot(t *testing.T) {
	for p, want := range parts() {
		s := p[0] + p[1] + p[2]
		reads(t, s+".", want)
		for _, end := range []string{"", " ", "#.", " # .", "..", ". .", ".x", ". x", " x.", ".;", ";", ",", ", <d> .", "; <d> <e> .", ". <d>", ".<d>", "._:d", ".\"d\"", "." + s + ".", ". " + s + " .", " <d> .", "<d>.", " _:d .", " \"d\" .", ". \\", ".\x00", ".é", "\x00.", "\\."} {
			refuses(t, s+end, 1, api.ErrWord)
			refuses(t, s+end+"\n.", 1, api.ErrWord)
			refuses(t, s+".\n\n"+s+end+"\n", 3, api.ErrWord)
		}
	}
}

// TestFew: lines of too few terms.
func TestFew(t *testing.T) {
	for _, s := range []string{".", " .", "..", "<a>", "<a>.", "<a> .", "<a> <b>", "<a> <b> .", "<a><b>.", "_:a .", "_:a <b> .", "\"a\" .", "\"a\" <b> .", "\"a\"@en <b> .", "<a> <b> ..", "<a> . <b> <c> .", "<a> <b> . <c> ."} {
		refuses(t, s, 1, api.ErrWord)
		refuses(t, s+"\n"+s, 1, api.ErrWord)
	}
}

// TestNoTerm: what is no term at its front, or has no end, at each place.
func TestNoTerm(t *testing.T) {
	good := [3]string{"<a>", "<b>", "<c>"}
	for at := range 3 {
		for _, s := range []string{
			"a", "A", "5", "-5", "true", "?a", "$a", "a:b", ":a", ":", "_", "_a", "_ :a", "__:a", "'a'", "(", "[]", "{", ",", ";", "\\", "@en", "^^<a>", "^", ">", "a>", "é", "\xff", "\x00", "*", "`a`", "!",
			"\"a\" @en", "\"a\"@EN", "\"a\"@en@de", "\"a\"@en^^<b>", "\"a\"^^<b>@en", "\"a\" ^^<b>", "\"a\"^^ <b>", "\"a\"^ ^<b>", "\"a\"^<b>", "\"a\"^^b", "\"a\"^^_:b", "\"a\"^^\"b\"", "\"a\"^^^<b>", "\"a\"^^", "\"a\"^", "\"a\"b", "\"a\"\"", "\"a\\q\"", "\"\\u0041\"", "\"\\ \"", "\"\\'\"", "\"\"\"a\"\"", "<a>b", "_:a:b", "_:a-b", "_:-", "_:.a",
		} {
			p := good
			p[at] = s
			refuses(t, p[0]+" "+p[1]+" "+p[2]+" .", 1, api.ErrWord)
			refuses(t, "<a> <b> <c> .\n#\n \n"+p[0]+" "+p[1]+" "+p[2]+" .\n<a> <b> <c> .", 4, api.ErrWord)
		}
		for _, s := range []string{"<", "<a", "<a b", "\"", "\"a", "\"a\\", "\"a\\\"", "\"a\"^^<", "\"a\"^^<b", "\"a\"^^<b c\"", "\"a' ."} {
			before := strings.Join(good[:at], " ") + " "
			refuses(t, before+s, 1, api.ErrWord)
			refuses(t, before+s+" .", 1, api.ErrWord)
			refuses(t, before+s+" .\n<a> <b> <c> .", 1, api.ErrWord)
		}
	}
}

// P901: Fits

// misfits are terms as they may be written, and Check's error of each.
func misfits() map[string]api.Errno {
	return map[string]api.Errno{
		"<>": api.ErrArg, "<a b>": api.ErrArg, "< >": api.ErrArg, "<\t>": api.ErrArg, "<\">": api.ErrArg, "<<>": api.ErrArg, "<{>": api.ErrArg, "<}>": api.ErrArg, "<|>": api.ErrArg, "<^>": api.ErrArg, "<\\>": api.ErrArg, "<`>": api.ErrArg, "<\x00>": api.ErrArg, "<" + x(61) + ">": api.ErrLong, "<" + strings.Repeat(" ", 61) + ">": api.ErrLong,
		"_:": api.ErrArg, "_:" + x(21): api.ErrArg, "_:" + x(60): api.ErrArg, "_:" + x(61): api.ErrLong,
		`"` + x(61) + `"`: api.ErrLong, `"` + strings.Repeat("é", 31) + `"`: api.ErrLong, `"a"@-`: api.ErrArg, `"a"@-en`: api.ErrArg, `"a"@` + x(9): api.ErrLong, `"a"@---------`: api.ErrLong, `"a"^^< >`: api.ErrArg, `"a"^^<a b>`: api.ErrArg, `"a"^^<` + x(61) + ">": api.ErrLong, `"` + x(61) + `"@-`: api.ErrLong,
	}
}

func TestMisfits(t *testing.T) {
	for s, want := range misfits() {
		for at := range 3 {
			for _, p := range [][3]string{{"<a>", "<b>", "<c>"}, {"_:a", "<b>", `"c"`}, {`"a"`, `"b"`, `"c"`}, {"_:a", "_:b", "_:c"}} {
				p[at] = s
				line := p[0] + " " + p[1] + " " + p[2] + " ."
				refuses(t, line, 1, want)
				refuses(t, "<a> <b> <c> .\r\n\n# c\n"+line+" # c\nx", 4, want)
				refuses(t, line[:len(line)-1], 1, api.ErrWord) // what does not fit goes ahead, wherever it stands
				refuses(t, line+".", 1, api.ErrWord)
				refuses(t, line+"\nx", 1, want) // but in its line alone
				for other, e := range misfits() {
					refuses(t, line+"\n<a> <b> "+other+" .", 1, want)
					p2 := p
					for k := range 3 {
						if k == at {
							continue
						}
						p2[k] = other
						first := want
						if k < at {
							first = e
						}
						refuses(t, p2[0]+" "+p2[1]+" "+p2[2]+" .", 1, first)
						p2[k] = p[k]
					}
				}
			}
		}
	}
}

// TestKinds: terms that do not fit where they stand.
func TestKinds(t *testing.T) {
	kinds := map[string]api.Term{"<a>": iri("a"), "_:a": node("a"), `"a"`: lit("a"), `"a"@en`: lang("a", "en"), `"a"^^<b>`: typed("a", "b"), `"a"@`: lit("a")}
	for a, y := range kinds {
		for b, p := range kinds {
			for c, o := range kinds {
				line := a + " " + b + " " + c + " ."
				if y.Kind == api.Literal || p.Kind != api.Iri {
					refuses(t, line, 1, api.ErrKind)
					refuses(t, "\n<a> <b> <c> .\n"+line, 3, api.ErrKind)
					refuses(t, line+"x", 1, api.ErrWord)
				} else {
					reads(t, line, api.Triple{y, p, o})
				}
			}
		}
	}
}

// TestLineNumbers: behind lines of all kinds, with and without triples, an error's line is its own; where there is none it is 0.
func TestLineNumbers(t *testing.T) {
	front := []string{"", " ", "#", "# c", "<a> <b> <c> .", "\t# \r", "<a> <b> \"\\n\" . # \\n", " \t", "<a> <b> \"\r\" ."}
	wrong := map[string]api.Errno{"x": api.ErrWord, "\r \r": api.ErrWord, "<a> <b> <c>": api.ErrWord, "<> <b> <c> .": api.ErrArg, "_:a _:b <c> .": api.ErrKind, "<a> <b> \"\"@" + x(9) + ".": api.ErrLong}
	for _, feed := range []string{"\n", "\r\n"} {
		s := ""
		for n := range 200 {
			for bad, want := range wrong {
				refuses(t, s+bad, n+1, want)
				refuses(t, s+bad+feed, n+1, want)
				refuses(t, s+bad+feed+front[n%len(front)]+feed+"y"+feed+"<> <b> <c> .", n+1, want)
			}
			tells(t, s)
			s += front[n%len(front)] + feed
		}
		_, line, e := nt.Parse(s)
		if line != 0 || e != api.OK {
			t.Errorf("P901: line %d, %v", line, e)
		}
	}
}

// TestOrder: triples are told as they stand, as often as they do.
func TestOrder(t *testing.T) {
	c, b, a := api.Triple{iri("c"), iri("b"), iri("a")}, api.Triple{node("z"), iri("b"), lit("a")}, of(lit("x"))
	cs, bs, as := "<c> <b> <a> .\n", "_:z <b> \"a\" .\n", "<a> <b> \"x\" .\n"
	reads(t, cs+bs+as, c, b, a)
	reads(t, as+bs+cs, a, b, c)
	reads(t, as+as, a, a)
	reads(t, cs+as+cs+bs+as+as+cs, c, a, c, b, a, a, c)
}

// P902

func TestWrite(t *testing.T) {
	writes(t, "")
	writes(t, "<a> <b> <c> .\n", abc)
	writes(t, "<a> <b> <c> .\n", abc, abc, abc)
	for s, y := range map[string]api.Term{
		"<c>": iri("c"), "_:c": node("c"), `""`: lit(""), `"c d"@en`: lang("c d", "en"), `"5"^^<` + api.XInt + ">": typed("5", api.XInt), `"\t\n\r\"\\"`: lit("\t\n\r\"\\"), "\"\x00\xff#.\"": lit("\x00\xff#."),
	} {
		writes(t, "<a> <b> "+s+" .\n", of(y))
		writes(t, "_:x <b> "+s+" .\n", api.Triple{node("x"), iri("b"), y})
	}
}

// ordered are triples in a graph's order, and the lines of them: by subjects, then predicates, then objects, of which blank nodes go ahead of IRIs, these ahead of literals.
func ordered() ([]api.Triple, []string) {
	var l []api.Triple
	var texts []string
	for _, s := range []api.Term{node("B"), node("a"), node("aa"), node("b"), iri("B"), iri("a"), iri("aa"), iri("b")} {
		for _, p := range []api.Term{iri("B"), iri("a"), iri("aa"), iri("b")} {
			for _, o := range []api.Term{node("b"), iri("a"), iri("b"), lit(""), lit("a"), typed("a", "a"), typed("a", "b"), lang("a", "d"), lang("a", "e"), lit("b")} {
				l = append(l, api.Triple{s, p, o})
				texts = append(texts, term.Text(s)+" "+term.Text(p)+" "+term.Text(o)+" .\n")
			}
		}
	}
	return l, texts
}

func TestWriteOrder(t *testing.T) {
	l, texts := ordered()
	want := strings.Join(texts, "")
	writes(t, want, l...)
	writes(t, want, append(slices.Clone(l), l...)...)
	d := die(902)
	for range 50 {
		m := append(slices.Clone(l), l[d.of(len(l))], l[d.of(len(l))])
		d.mix(m)
		writes(t, want, m...)
	}
	slices.Reverse(l)
	writes(t, want, l...)
	for i := range l {
		for k := range 40 {
			a, b := l[i], l[(i+k*7)%len(l)]
			writes(t, write([]api.Triple{a, b}), b, a, b)
		}
	}
}

// TestWriteMany: more triples than a store has, a text longer than one that is read.
func TestWriteMany(t *testing.T) {
	var l []api.Triple
	var want strings.Builder
	for i := range 20000 {
		s := strconv.Itoa(100000 + i)
		l = append(l, api.Triple{node(s), iri(s), lit(s)})
		want.WriteString("_:" + s + " <" + s + "> \"" + s + "\" .\n")
	}
	d := die(9)
	d.mix(l)
	writes(t, want.String(), append(l, l...)...)
}

// P903

// back tells a fault where Parse of Write is not the graph, or Write of that another text.
func back(t *testing.T, l []api.Triple) {
	t.Helper()
	s := nt.Write(l)
	got, line, e := nt.Parse(s)
	if want := set(l); !slices.Equal(got, want) || line != 0 || e != api.OK {
		t.Fatalf("P903: %s: %s, line %d, %v, not %s", clip(s), show(got), line, e, show(want))
	}
	if again := nt.Write(got); again != s {
		t.Fatalf("P903: %s, not %s", clip(again), clip(s))
	}
}

func TestBack(t *testing.T) {
	back(t, nil)
	l, _ := ordered()
	back(t, l)
	back(t, append(l, l...))
	for i := range 256 {
		for _, s := range []string{string([]byte{byte(i)}), "a" + string([]byte{byte(i)}), string([]byte{byte(i)}) + "a", `\` + string([]byte{byte(i)}), `\\` + string([]byte{byte(i)}) + `"`} {
			back(t, []api.Triple{of(lit(s)), of(lang(s, "en")), of(typed(s, "a"))})
			if term.Check(iri(s)) == api.OK {
				back(t, []api.Triple{{iri(s), iri(s), iri(s)}, of(typed("", s))})
			}
			if term.Check(node(s)) == api.OK {
				back(t, []api.Triple{{node(s), iri("a"), node(s)}})
			}
		}
	}
	for _, s := range []string{strings.Repeat("\n", 60), strings.Repeat("\r\n", 30), strings.Repeat(`\`, 60), strings.Repeat(`"`, 60), strings.Repeat("\t", 60), strings.Repeat("é", 30), strings.Repeat("\xff", 60), x(60), " . # ", "\" .\n<a> <b> <c> .", `\n`, `\`, `\"`} {
		back(t, []api.Triple{{node(x(20)), iri(x(60)), lang(s, x(8))}, {iri(x(60)), iri(x(60)), typed(s, x(60))}, of(lit(s))})
	}
}

// TestBackLong: a graph whose text is as long as may be is read; of a longer one P901's ErrLong says so.
func TestBackLong(t *testing.T) {
	var l []api.Triple
	for i := range 200 {
		l = append(l, api.Triple{iri(strconv.Itoa(1000+i) + x(40)), iri("b"), lit(x(24))})
	}
	if n := len(nt.Write(l)); n != longest {
		t.Fatalf("a text of %d", n)
	}
	back(t, l)
	l[7][2].S += "x"
	refuses(t, nt.Write(l), 0, api.ErrLong)
}

// Thrown texts and triples

// die throws numbers.
type die uint64

func (d *die) of(k int) int {
	*d = *d*6364136223846793005 + 1442695040888963407
	return int(uint64(*d) >> 33 % uint64(k))
}

// pick is one of these.
func (d *die) pick(l ...string) string { return l[d.of(len(l))] }

// mix puts triples in another order.
func (d *die) mix(l []api.Triple) {
	for i := range l {
		k := i + d.of(len(l)-i)
		l[i], l[k] = l[k], l[i]
	}
}

// bytes throws some of these letters.
func (d *die) bytes(letters string, most int) string {
	var b []byte
	for range d.of(most + 1) {
		b = append(b, letters[d.of(len(letters))])
	}
	return string(b)
}

// good throws a term of one of these kinds.
func (d *die) good(kinds ...int) api.Term {
	t := api.Term{Kind: kinds[d.of(len(kinds))]}
	switch t.Kind {
	case api.Iri:
		t.S = "a" + d.bytes("ab:/#.@\xc3\xa9\x7f", 3)
	case api.Blank:
		t.S = "b" + d.bytes("aZ_9", 2)
	case api.Literal:
		t.S = d.bytes("at\"\\\t\n\r\x00<>@^# .\xff", 4)
		switch d.of(3) {
		case 0:
			t.Lang = "e" + d.bytes("n-", 2)
		case 1:
			t.Type = "t" + d.bytes("ab.", 2)
		}
	}
	return t
}

// triples throws some, of which some stand twice.
func (d *die) triples(most int) []api.Triple {
	var l []api.Triple
	for range d.of(most + 1) {
		if len(l) > 0 && d.of(4) == 0 {
			l = append(l, l[d.of(len(l))])
			continue
		}
		l = append(l, api.Triple{d.good(api.Iri, api.Blank), d.good(api.Iri), d.good(api.Iri, api.Blank, api.Literal)})
	}
	return l
}

func TestThrownGraphs(t *testing.T) {
	d := die(903)
	for range 5000 {
		l := d.triples(30)
		if got, want := nt.Write(l), write(l); got != want {
			t.Fatalf("P902: %s: %s, not %s", show(l), clip(got), clip(want))
		}
		back(t, l)
	}
}

// word throws a term as it may be written, mostly.
func (d *die) word() string {
	switch d.of(12) {
	case 0:
		return "<" + d.bytes("ab <\"#\\", 2) + ">"
	case 1:
		return "_:" + d.bytes("aZ_9", 3)
	case 2:
		return `"` + d.bytes("at\"\\\r#", 3) + `"`
	case 3:
		return `"a"@` + d.bytes("en-E", 3)
	case 4:
		return `"a"^^<` + d.bytes("ab >", 2) + ">"
	case 5:
		return d.bytes("<>_:\"@^.#\\ \r", 4)
	case 6:
		return "<" + x(59+d.of(4)) + ">"
	}
	return term.Text(d.good(api.Iri, api.Iri, api.Blank, api.Literal))
}

// line throws one, with its end.
func (d *die) line() string {
	end := d.pick("\n", "\n", "\r\n", "\r\n", "\r\r\n", "\n\n")
	switch d.of(8) {
	case 0:
		return d.pick("", " ", "\t ", "#", " # c", "#\r") + end
	case 1:
		return d.word() + d.pick("", " ") + d.word() + d.pick("", " ") + d.word() + d.pick(".", " .", "", " . #", ". x", "..") + end
	}
	b := d.pick("", " ", "\t", "  ")
	return b + term.Text(d.good(api.Iri, api.Blank)) + b + term.Text(d.good(api.Iri)) + b + term.Text(d.good(api.Iri, api.Blank, api.Literal)) + b + "." + b + d.pick("", "# c") + end
}

func TestThrownTexts(t *testing.T) {
	d := die(901)
	had := map[api.Errno]int{}
	for range 40000 {
		var s string
		for range d.of(6) {
			s += d.line()
		}
		if d.of(3) == 0 {
			s = strings.TrimRight(s, "\n")
		}
		tells(t, s)
		_, _, e := nt.Parse(s)
		had[e]++
	}
	for _, e := range []api.Errno{api.OK, api.ErrWord, api.ErrArg, api.ErrKind, api.ErrLong} {
		if had[e] < 300 {
			t.Errorf("%v was thrown %d times only", e, had[e])
		}
	}
}

// TestAllShort goes through all texts of up to five of these letters, alone and where an object stands.
func TestAllShort(t *testing.T) {
	l := []string{""}
	for from, n := 0, 0; n < 5; n++ {
		to := len(l)
		for _, s := range l[from:to] {
			for _, c := range "<>_:\"@^\\.# \r\nt" {
				l = append(l, s+string(c))
			}
		}
		from = to
		if n == 3 {
			for _, s := range l {
				tells(t, "<a> <b> "+s+" .")
				tells(t, "<a><b>\"c\""+s+".")
			}
		}
	}
	for _, s := range l {
		tells(t, s)
	}
}

// P1 to P8

// TestOwnMemory (P2): what is handed in, its spare room too, stays as it is, and is not kept; an answer is nobody else's.
func TestOwnMemory(t *testing.T) {
	l, texts := ordered()
	room := append(slices.Clone(l), abc, abc)
	slices.Reverse(room[:len(l)])
	before := slices.Clone(room)
	want := strings.Join(texts, "")
	if got := nt.Write(room[:len(l)]); got != want || !slices.Equal(room, before) {
		t.Errorf("P2: what Write is handed is changed: %s", show(room))
	}
	got := nt.Write(room[:len(l)])
	clear(room)
	if got != want {
		t.Errorf("P2: what Write is handed is kept")
	}
	s := strings.Join(texts[:40], "")
	a, _, _ := nt.Parse(s)
	b, _, _ := nt.Parse(s)
	for i := range a[:cap(a)] {
		a[:cap(a)][i] = api.Triple{}
	}
	if !slices.Equal(b, l[:40]) {
		t.Errorf("P2: two answers share memory: %s", show(b))
	}
	reads(t, s, l[:40]...)
}

// TestNotKept (P2): a text that was made of bytes that change later.
func TestNotKept(t *testing.T) {
	for _, line := range samples() {
		want, _, _ := parse(line)
		b := []byte(line)
		got, _, e := nt.Parse(unsafe.String(&b[0], len(b)))
		for i := range b {
			b[i] = '?'
		}
		if !slices.Equal(got, want) || e != api.OK {
			t.Errorf("P2: %s is kept: %s", clip(line), show(got))
		}
	}
}

// TestNoTriples (P8): Write of what are no triples ends, and leaves them as they are.
func TestNoTriples(t *testing.T) {
	odd := []api.Term{{}, {Kind: api.Var, S: "a"}, {Kind: -1, S: "\n"}, {Kind: math.MaxInt, Lang: "\""}, {Kind: math.MinInt, Type: ">"}, iri(""), iri(">\n"), node(""), node(" "), lit(x(70000)), {Kind: api.Literal, Lang: "a", Type: "b"}, {Kind: api.Iri, S: "a", Lang: "b"}}
	var l []api.Triple
	for i, s := range odd {
		for k, p := range odd {
			l = append(l, api.Triple{s, p, odd[(i+k)%len(odd)]})
		}
	}
	before := slices.Clone(l)
	got := nt.Write(l)
	if again := nt.Write(l); again != got || !slices.Equal(l, before) {
		t.Errorf("P8: Write")
	}
	nt.Parse(got[:longest])
}

// TestSideBySide (P3, P7): the same calls answer the same, many at once too.
func TestSideBySide(t *testing.T) {
	var w sync.WaitGroup
	texts := samples()
	l, lines := ordered()
	slices.Reverse(l)
	want := strings.Join(lines, "")
	for range 8 {
		w.Go(func() {
			for range 50 {
				for _, s := range texts {
					tells(t, s)
				}
				writes(t, want, l...)
			}
		})
	}
	w.Wait()
}

func FuzzParse(f *testing.F) {
	for _, s := range samples() {
		f.Add(s)
		f.Add("\n# c\r\n" + s + "\r\n" + s + "\r")
	}
	for s := range misfits() {
		f.Add("<a> <b> " + s + " .")
	}
	f.Fuzz(func(t *testing.T, s string) {
		tells(t, s)
		if l, _, e := nt.Parse(s); e == api.OK {
			if len(nt.Write(l)) <= longest {
				back(t, l)
			}
			for _, x := range l {
				if term.Fits(x) != api.OK {
					t.Fatalf("P901: %s", show(l))
				}
			}
		}
	})
}

func FuzzWrite(f *testing.F) {
	f.Add("a", "b", "c", "", "", "d", "e", "f")
	f.Add("a", "b", "\t\n\r\"\\", "en", "", "a", "b", "\" .\n")
	f.Add("a", "b", "5", "", api.XInt, "a", "b", "\xff")
	f.Fuzz(func(t *testing.T, a, b, c, lang, y, a2, b2, c2 string) {
		var l []api.Triple
		for _, x := range []api.Triple{{iri(a), iri(b), {Kind: api.Literal, S: c, Lang: lang, Type: y}}, {node(a), iri(b), node(c)}, {iri(a2), iri(b2), lit(c2)}, {node(a2), iri(b2), iri(c2)}, {iri(a), iri(b2), typed(c2, y)}} {
			if term.Fits(x) == api.OK {
				l = append(l, x)
			}
		}
		if got, want := nt.Write(l), write(l); got != want {
			t.Fatalf("P902: %s, not %s", clip(got), clip(want))
		}
		back(t, l)
	})
}
