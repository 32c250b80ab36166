package lex_test

import (
	"regexp"
	"slices"
	"strconv"
	"strings"
	"sync"
	"testing"
	"unsafe"

	"triad/api"
	"triad/lex"
)

// longest is how many bytes a text may have.
const longest = 4000

func x(n int) string { return strings.Repeat("x", n) }

// Tokens of each kind.

func ref(s string) api.Token { return api.Token{Kind: api.TIri, S: s} }

func name(s string) api.Token { return api.Token{Kind: api.TName, S: s} }

func node(s string) api.Token { return api.Token{Kind: api.TBlank, S: s} }

func variable(s string) api.Token { return api.Token{Kind: api.TVar, S: s} }

func text(s string) api.Token { return api.Token{Kind: api.TText, S: s} }

func lang(s string) api.Token { return api.Token{Kind: api.TLang, S: s} }

func num(s string) api.Token { return api.Token{Kind: api.TNum, S: s} }

func word(s string) api.Token { return api.Token{Kind: api.TWord, S: s} }

func sign(s string) api.Token { return api.Token{Kind: api.TSign, S: s} }

// clip tells a text for a fault.
func clip(s string) string {
	if len(s) > 90 {
		s = s[:60] + ".." + strconv.Itoa(len(s)) + ".." + s[len(s)-10:]
	}
	return strconv.Quote(s)
}

// show tells tokens for a fault.
func show(l []api.Token) string {
	s := strconv.Itoa(len(l)) + ":"
	for i, t := range l {
		if i == 20 {
			return s + " .."
		}
		s += " " + strconv.Itoa(t.Kind) + " " + clip(t.S) + ";"
	}
	return s
}

// reads tells a fault where Tokens answers other ones, or an error.
func reads(t *testing.T, s string, want ...api.Token) {
	t.Helper()
	l, e := lex.Tokens(s)
	if e != api.OK || !slices.Equal(l, want) {
		t.Errorf("P1101: %s: %s %v, not %s", clip(s), show(l), e, show(want))
	}
}

// refuses tells a fault where Tokens answers another error, or tokens.
func refuses(t *testing.T, s string, want api.Errno) {
	t.Helper()
	l, e := lex.Tokens(s)
	if e != want || len(l) != 0 {
		t.Errorf("P1101: %s: %s %v, not %v", clip(s), show(l), e, want)
	}
}

// fails is of texts with something that is none.
func fails(t *testing.T, l ...string) {
	t.Helper()
	for _, s := range l {
		refuses(t, s, api.ErrWord)
	}
}

// The chapter's own words, as patterns in its order: of texts whose runes are the bytes.

var (
	gapForm = regexp.MustCompile(`^(?s:[ \t\n\r]|#[^\n]*)*`)
	forms   = [...]*regexp.Regexp{
		api.TIri:   regexp.MustCompile("^<([^\\x00- <>\"{}|^\\\\`]*)>"),
		api.TBlank: regexp.MustCompile(`^_:([A-Za-z0-9_]+)`),
		api.TVar:   regexp.MustCompile(`^[?$]([A-Za-z][A-Za-z0-9_]*)`),
		api.TText:  regexp.MustCompile(`^(?s:"((?:[^"\\\n]|\\[tnr"'\\])*)"|'((?:[^'\\\n]|\\[tnr"'\\])*)')`),
		api.TLang:  regexp.MustCompile(`^@([a-z][a-z-]*)`),
		api.TNum:   regexp.MustCompile(`^([0-9]+(?:\.[0-9]+)?)`),
		api.TName:  regexp.MustCompile(`^((?:[A-Za-z][A-Za-z0-9_-]*)?:(?:[A-Za-z0-9_.-]*[A-Za-z0-9_-])?)`),
		api.TWord:  regexp.MustCompile(`^([A-Za-z][A-Za-z0-9_]*)`),
		api.TSign:  regexp.MustCompile(`^(&&|\|\||!=|<=|>=|\^\^|[{}()[\].;,=<>!+\-*/|^?])`),
	}
	order    = [...]int{api.TIri, api.TBlank, api.TVar, api.TText, api.TLang, api.TNum, api.TName, api.TWord, api.TSign}
	unescape = strings.NewReplacer(`\t`, "\t", `\n`, "\n", `\r`, "\r", `\"`, `"`, `\'`, `'`, `\\`, `\`)
)

// wide is a text whose runes are the bytes of another, narrow is that other again.
func wide(s string) string {
	var l []rune
	for i := range len(s) {
		l = append(l, rune(s[i]))
	}
	return string(l)
}

func narrow(s string) string {
	var b []byte
	for _, r := range s {
		b = append(b, byte(r))
	}
	return string(b)
}

// tokens is Tokens by these.
func tokens(s string) (l []api.Token, e api.Errno) {
	if len(s) > longest {
		return nil, api.ErrLong
	}
	s = wide(s)
next:
	for {
		s = s[len(gapForm.FindString(s)):]
		if s == "" {
			return l, api.OK
		}
		for _, k := range order {
			m := forms[k].FindStringSubmatch(s)
			if m == nil {
				continue
			}
			told := narrow(strings.Join(m[1:], ""))
			if k == api.TText {
				told = unescape.Replace(told)
			}
			l = append(l, api.Token{Kind: k, S: told})
			s = s[len(m[0]):]
			continue next
		}
		return nil, api.ErrWord
	}
}

// tells tells a fault where Tokens and this differ, or where what is told does not stand in the text.
func tells(t *testing.T, s string) {
	t.Helper()
	want, e := tokens(s)
	if e != api.OK {
		refuses(t, s, e)
		return
	}
	reads(t, s, want...)
	stands(t, s)
}

// stands tells a fault where the tokens do not stand in the text, in order, with nothing but blanks and remarks between.
func stands(t *testing.T, s string) {
	t.Helper()
	l, e := lex.Tokens(s)
	if e != api.OK {
		return
	}
	rest := s
	for i, y := range l {
		rest = bare(rest)
		n := spelt(y, rest)
		if n <= 0 {
			t.Errorf("P1102: %s: token %d of %s does not stand at %s", clip(s), i, show(l), clip(rest))
			return
		}
		rest = rest[n:]
	}
	if bare(rest) != "" {
		t.Errorf("P1102: %s: %s, and %s is left", clip(s), show(l), clip(rest))
	}
}

// bare is a text behind its blanks and remarks.
func bare(s string) string {
	for i := 0; i < len(s); i++ {
		switch s[i] {
		case ' ', '\t', '\n', '\r':
		case '#':
			for i < len(s) && s[i] != '\n' {
				i++
			}
		default:
			return s[i:]
		}
	}
	return ""
}

// spelt is of how many bytes a token stands at a text's front; 0, if it does not.
func spelt(y api.Token, s string) int {
	front, back := "", ""
	switch y.Kind {
	case api.TIri:
		front, back = "<", ">"
	case api.TBlank:
		front = "_:"
	case api.TVar:
		front = s[:1]
		if !strings.Contains("?$", front) {
			return 0
		}
	case api.TText:
		return quoted(y.S, s)
	case api.TLang:
		front = "@"
	}
	whole := front + y.S + back
	if !strings.HasPrefix(s, whole) {
		return 0
	}
	return len(whole)
}

// quoted is spelt of a text: each of its bytes stands for itself, or behind a backslash.
func quoted(told, s string) int {
	if s[0] != '"' && s[0] != '\'' {
		return 0
	}
	at := 1
	for i := range len(told) {
		if at < len(s) && s[at] == '\\' {
			at++
			if at == len(s) || map[byte]byte{'t': 9, 'n': 10, 'r': 13, '"': 34, '\'': 39, '\\': 92}[s[at]] != told[i] {
				return 0
			}
		} else if at == len(s) || s[at] != told[i] || s[at] == s[0] || s[at] == '\n' {
			return 0
		}
		at++
	}
	if at >= len(s) || s[at] != s[0] {
		return 0
	}
	return at + 1
}

// P1101: length

func TestLength(t *testing.T) {
	for _, s := range []string{" ", "\t", "\n", "\r", "#"} {
		reads(t, strings.Repeat(s, longest))
		refuses(t, strings.Repeat(s, longest+1), api.ErrLong)
		refuses(t, strings.Repeat(s, 100000), api.ErrLong)
		reads(t, "a"+strings.Repeat(s, longest-1), word("a"))
		refuses(t, "a"+strings.Repeat(s, longest), api.ErrLong)
		reads(t, strings.Repeat(s, longest-2)+"\na", word("a"))
		refuses(t, strings.Repeat(s, longest-1)+"\na", api.ErrLong)
	}
	for _, y := range [][3]string{{"<", "a", ">"}, {"<", "\xff", ">"}, {"_:", "1"}, {"?", "a"}, {"$", "a"}, {`"`, " ", `"`}, {"'", "#", "'"}, {"@", "a"}, {"", "7"}, {"1.", "7"}, {":", "a"}, {"a:", ".", "a"}, {"", "a"}, {"", "a-", ":"}, {"", "."}} {
		n := (longest - len(y[0]) - len(y[2])) / len(y[1])
		s := y[0] + strings.Repeat(y[1], n) + y[2]
		s += strings.Repeat(" ", longest-len(s))
		tells(t, s)
		if _, e := lex.Tokens(s); e != api.OK {
			t.Errorf("P1101: %s: %v", clip(s), e)
		}
		refuses(t, s+" ", api.ErrLong)
		refuses(t, "\n"+s, api.ErrLong)
		refuses(t, strings.Repeat(s, 100), api.ErrLong)
	}
	reads(t, "<"+x(longest-2)+">", ref(x(longest-2)))
	reads(t, "?"+x(longest-1), variable(x(longest-1)))
	reads(t, "'"+strings.Repeat("\\t", longest/2-1)+"'", text(strings.Repeat("\t", longest/2-1)))
	reads(t, "'"+strings.Repeat("é", longest/2-1)+"'", text(strings.Repeat("é", longest/2-1)))
	refuses(t, "'"+strings.Repeat("é", longest/2-1)+"x'", api.ErrLong) // bytes, not signs
	reads(t, strings.Repeat("a ", longest/2), slices.Repeat([]api.Token{word("a")}, longest/2)...)
	reads(t, strings.Repeat(".", longest), slices.Repeat([]api.Token{sign(".")}, longest)...)
}

// TestLengthFirst: it goes ahead of what is none, and nothing of a text that is as long as may be is left out.
func TestLengthFirst(t *testing.T) {
	for _, s := range []string{"&", "~", "\"", "'\\q'", "_", "@", "\x00", "é"} {
		refuses(t, s, api.ErrWord)
		refuses(t, s+strings.Repeat(" ", longest-len(s)), api.ErrWord)
		refuses(t, strings.Repeat(" ", longest-len(s))+s, api.ErrWord)
		refuses(t, s+strings.Repeat(" ", longest-len(s)+1), api.ErrLong)
		refuses(t, strings.Repeat(" ", longest-len(s)+1)+s, api.ErrLong)
	}
}

// P1101: blanks and remarks

func TestNothing(t *testing.T) {
	for _, s := range []string{"", " ", "\t", "\n", "\r", " \t\r\n \n\r", "#", "##", "#\n", "# a", "\r#\r", "#\n#\n", " # a\n\t# b\r\n# \" ' < \\ & ~ \x00 \xff é\r"} {
		reads(t, s)
		reads(t, s+"\na", word("a"))
		reads(t, "a"+s, word("a"))
		reads(t, "a"+s+"\nb"+s, word("a"), word("b"))
	}
}

// TestBlanks goes through every byte between two words: four are gone past, a remark takes the rest, and some are tokens or a word's own.
func TestBlanks(t *testing.T) {
	for i := range 256 {
		b := string([]byte{byte(i)})
		s := "a" + b + "b"
		switch {
		case strings.Contains(" \t\n\r", b):
			reads(t, s, word("a"), word("b"))
			reads(t, b+s+b+b, word("a"), word("b"))
			reads(t, b)
		case b == "#":
			reads(t, s, word("a"))
		case b == ":":
			reads(t, s, name("a:b"))
		case strings.Contains("{}()[].;,=<>!+-*/|^", b):
			reads(t, s, word("a"), sign(b), word("b"))
		case b == "?", b == "$":
			reads(t, s, word("a"), variable("b"))
		case b == "@":
			reads(t, s, word("a"), lang("b"))
		case b == "_", '0' <= i && i <= '9', 'A' <= i && i <= 'Z', 'a' <= i && i <= 'z':
			reads(t, s, word(s))
		default:
			fails(t, s, b, b+"a", "a "+b, "5"+b, b+" ", "?"+b, "<"+b, ":"+b, "{"+b+"}")
		}
	}
	fails(t, "\v", "\f", "a\vb", "\u00a0", "a\u0085b", "\u2028", "\ufeffa", "a\u3000", "\x85")
}

// TestRemarks: up to a line feed, or the text's end.
func TestRemarks(t *testing.T) {
	for _, s := range []string{"#", "# ", "##", "#a", "# a # b", "#\"", "#'", "#<", "#<a>", "#>", "#\\", "#&", "#\x00\xff\xc3", "#é", "#\t", "#\r", "#a\rb", "#\v\f\u0085\u2028", "#" + x(500)} {
		reads(t, s)
		reads(t, s+"\n")
		reads(t, s+"\r\n")
		reads(t, " "+s+"\n\n"+s)
		for y, want := range alone() {
			if strings.Contains("<=", y) && s == "#>" {
				continue // they would be one reference
			}
			reads(t, y+s, want)
			reads(t, y+" "+s, want)
			reads(t, s+"\n"+y, want)
			reads(t, s+"\r\n\t"+s+"\n"+y+s+"\n"+s, want)
			reads(t, y+s+"\n"+y+s, want, want)
		}
	}
	reads(t, "a #b\n#c\nd #e", word("a"), word("d"))
	reads(t, "a#b\rc\nd", word("a"), word("d")) // a carriage return ends no line
}

// TestNoRemarks: a '#' between '<' and '>' is theirs, and one in a text the text's.
func TestNoRemarks(t *testing.T) {
	reads(t, "<#>", ref("#"))
	reads(t, "<a#b>#c>", ref("a#b"))
	reads(t, "<##>\n<a#>", ref("##"), ref("a#"))
	reads(t, "<a<#b>", sign("<"), word("a"), ref("#b"))
	reads(t, "<a #b>", sign("<"), word("a"))
	reads(t, "<a#b", sign("<"), word("a"))
	reads(t, "<#", sign("<"))
	reads(t, "<#a b>", sign("<"))
	reads(t, "<#a b>\n>", sign("<"), sign(">"))
	reads(t, "#<a\n>", sign(">"))
	reads(t, "> #a", sign(">"))
	reads(t, `"#"`, text("#"))
	reads(t, `'a#b'#'`, text("a#b"))
	reads(t, `"'#'" # "`, text("'#'"))
	fails(t, `"#`, "'#\n'", "#\n'#")
}

// P1101: kinds

// alone are tokens of all kinds, as they are spelt.
func alone() map[string]api.Token {
	l := map[string]api.Token{
		"<>": ref(""), "<a>": ref("a"), "<http://a.b/c?d=e&f#g>": ref("http://a.b/c?d=e&f#g"), "<=>": ref("="), "<?b>": ref("?b"), "<é\xff\x80\x7f>": ref("é\xff\x80\x7f"), "<_:a>": ref("_:a"), "<'>": ref("'"), "<!#$%&()*+,-./:;=?@[]_~>": ref("!#$%&()*+,-./:;=?@[]_~"),
		"_:a": node("a"), "_:1": node("1"), "_:_": node("_"), "_:aZ_09z": node("aZ_09z"), "_:___": node("___"),
		"?a": variable("a"), "$a": variable("a"), "?A": variable("A"), "?a_1": variable("a_1"), "$zZ9_": variable("zZ9_"), "?a234567890123456789": variable("a234567890123456789"),
		`""`: text(""), `''`: text(""), `"a"`: text("a"), `'a'`: text("a"), `"'"`: text("'"), `'"'`: text(`"`), `"a b\t"`: text("a b\t"), `"<a>"`: text("<a>"), "\"\x00\xff\xc3\r\t\v\x7f\"": text("\x00\xff\xc3\r\t\v\x7f"), "'é`'": text("é`"), `'\''`: text("'"), `"\\"`: text(`\`), `"\\\""`: text(`\"`),
		"@a": lang("a"), "@en": lang("en"), "@en-us": lang("en-us"), "@a-": lang("a-"), "@a--b": lang("a--b"), "@prefix": lang("prefix"), "@abcdefghijklmnopqrstuvwxyz-": lang("abcdefghijklmnopqrstuvwxyz-"),
		"0": num("0"), "5": num("5"), "007": num("007"), "1234567890": num("1234567890"), "5.25": num("5.25"), "0.0": num("0.0"), "00.00": num("00.00"),
		":": name(":"), "a:": name("a:"), ":a": name(":a"), "a:b": name("a:b"), "a-b:c-d": name("a-b:c-d"), "a_:_": name("a_:_"), "a--:-": name("a--:-"), ":a.b": name(":a.b"), "a9:.b": name("a9:.b"), "a:b..c": name("a:b..c"), ":1": name(":1"), ":-": name(":-"), ":.-": name(":.-"), "Z-z_9:9_z-Z": name("Z-z_9:9_z-Z"),
		"a": word("a"), "SELECT": word("SELECT"), "a_1": word("a_1"), "Zz09_": word("Zz09_"), "true": word("true"), "e3": word("e3"), "abcdefghijklmnopqrstuvwxyzABCDEFGHIJKLMNOPQRSTUVWXYZ_0123456789": word("abcdefghijklmnopqrstuvwxyzABCDEFGHIJKLMNOPQRSTUVWXYZ_0123456789"),
	}
	for _, s := range strings.Fields("&& || != <= >= ^^ { } ( ) [ ] . ; , = < > ! + - * / | ^ ?") {
		l[s] = sign(s)
	}
	return l
}

func TestAlone(t *testing.T) {
	for s, want := range alone() {
		reads(t, s, want)
		stands(t, s)
		for _, b := range []string{" ", "\t", "\n", "\r", "\r\n", " \t ", "#a\n"} {
			reads(t, b+s, want)
			reads(t, s+b, want)
			reads(t, b+s+b+s+b, want, want)
		}
	}
}

// TestTwo has two of them, close behind one another and parted.
func TestTwo(t *testing.T) {
	for a, p := range alone() {
		for b, q := range alone() {
			for _, gap := range []string{" ", "\t", "\n", "\r", "#\n", " # > \" '\n"} {
				reads(t, a+gap+b, p, q)
			}
			tells(t, a+b)
			tells(t, a+b+a)
		}
	}
}

func TestExample(t *testing.T) {
	reads(t, "?a < 5", variable("a"), sign("<"), num("5"))
}

func TestQuestion(t *testing.T) {
	reads(t, "PREFIX f: <http://f/>\nSELECT ?a (COUNT(DISTINCT $b) AS ?n) # two\nWHERE { ?a f:knows/^f:x.y+ _:c , \"d\\n\"@en-us ; a f:P. FILTER(?a<=5.5&&!BOUND(?b)||'5'^^<t>!=-1.) }",
		word("PREFIX"), name("f:"), ref("http://f/"), word("SELECT"), variable("a"), sign("("), word("COUNT"), sign("("), word("DISTINCT"), variable("b"), sign(")"), word("AS"), variable("n"), sign(")"),
		word("WHERE"), sign("{"), variable("a"), name("f:knows"), sign("/"), sign("^"), name("f:x.y"), sign("+"), node("c"), sign(","), text("d\n"), lang("en-us"), sign(";"), word("a"), name("f:P"), sign("."),
		word("FILTER"), sign("("), variable("a"), sign("<="), num("5.5"), sign("&&"), sign("!"), word("BOUND"), sign("("), variable("b"), sign(")"), sign("||"), text("5"), sign("^^"), ref("t"), sign("!="), sign("-"), num("1"), sign("."), sign(")"), sign("}"))
	reads(t, "@prefix a: <b> . @base <c/> .\n[ a:d (1 true) ] .", lang("prefix"), name("a:"), ref("b"), sign("."), lang("base"), ref("c/"), sign("."), sign("["), name("a:d"), sign("("), num("1"), word("true"), sign(")"), sign("]"), sign("."))
}

// TestReferences goes through every byte between '<' and '>': where one may not stand there, '<' is a sign.
func TestReferences(t *testing.T) {
	for i := range 256 {
		b := string([]byte{byte(i)})
		for _, s := range []string{b, "a" + b, b + "a", "a" + b + "a", b + b} {
			switch {
			case i > 32 && !strings.Contains("<>\"{}|^\\`", b):
				reads(t, "<"+s+">", ref(s))
				reads(t, "<"+s+">a>", ref(s), word("a"), sign(">"))
			case b == ">":
				front, back, _ := strings.Cut(s, ">")
				want := []api.Token{ref(front)}
				if strings.HasPrefix(back, "a") {
					want = append(want, word("a"))
				}
				for range strings.Count(back, ">") + 1 {
					want = append(want, sign(">"))
				}
				reads(t, "<"+s+">", want...)
			default:
				l, e := lex.Tokens("<" + s + ">")
				if e == api.OK && l[0] != sign("<") || e != api.OK && e != api.ErrWord {
					t.Errorf("P1101: %q: %s %v", "<"+s+">", show(l), e)
				}
			}
			tells(t, "<"+s+">")
			tells(t, "<"+s)
			tells(t, "<"+s+" >")
		}
	}
	reads(t, "<", sign("<"))
	reads(t, "<a", sign("<"), word("a"))
	reads(t, "<a:b", sign("<"), name("a:b"))
	reads(t, "<a b>", sign("<"), word("a"), word("b"), sign(">"))
	reads(t, "<a\nb>", sign("<"), word("a"), word("b"), sign(">"))
	reads(t, "<{a}>", sign("<"), sign("{"), word("a"), sign("}"), sign(">"))
	reads(t, "<a|b>", sign("<"), word("a"), sign("|"), word("b"), sign(">"))
	reads(t, "<a^b>", sign("<"), word("a"), sign("^"), word("b"), sign(">"))
	reads(t, `<"a">`, sign("<"), text("a"), sign(">"))
	reads(t, "<'a'>", ref("'a'"))
	reads(t, "<a<b>", sign("<"), word("a"), ref("b"))
	reads(t, "<<a>>", sign("<"), ref("a"), sign(">"))
	reads(t, "<=5", sign("<="), num("5"))
	reads(t, "<= >", sign("<="), sign(">"))
	reads(t, "<=5>", ref("=5")) // a reference goes first, if it fits
	reads(t, "?a<=?b", variable("a"), sign("<="), variable("b"))
	reads(t, "?a<?b&&?c>?d", variable("a"), ref("?b&&?c"), variable("d"))
	reads(t, "?a<?b || ?c>?d", variable("a"), sign("<"), variable("b"), sign("||"), variable("c"), sign(">"), variable("d"))
	fails(t, "<é", "<a\\b>", "<`>", "<\x00>", "<a\"b>", "<~", "< é>")
}

func TestNodes(t *testing.T) {
	fails(t, "_", "_:", "_: a", "_::", "_::a", "_:-", "_:.", "_:é", "_a", "_a:b", "__:a", "_ :a", "_:<a>", "_:\"a\"", "_:?a", "_:#", "_\n:a", "_1")
	reads(t, "_:a:b", node("a"), name(":b"))
	reads(t, "_:a_:b", node("a_"), name(":b"))
	reads(t, "_:a-b", node("a"), sign("-"), word("b"))
	reads(t, "_:a.b", node("a"), sign("."), word("b"))
	reads(t, "_:a.", node("a"), sign("."))
	reads(t, "_:a-b:c", node("a"), sign("-"), name("b:c"))
	reads(t, "_:1.5", node("1"), sign("."), num("5"))
	reads(t, "_:a<b>", node("a"), ref("b"))
	reads(t, "_:a_:", node("a_"), name(":"))
	fails(t, "_:aé", "_:a\x00", "_:a_:é")
	for i := range 256 {
		b := string([]byte{byte(i)})
		tells(t, "_:"+b)
		tells(t, "_:a"+b)
		tells(t, "_:a"+b+"a")
		tells(t, "_"+b+"a")
	}
}

// TestVariables: '?' is a sign with no letter behind it, '$' is none.
func TestVariables(t *testing.T) {
	reads(t, "?", sign("?"))
	reads(t, "? a", sign("?"), word("a"))
	reads(t, "?1", sign("?"), num("1"))
	reads(t, "?1a", sign("?"), num("1"), word("a"))
	reads(t, "??", sign("?"), sign("?"))
	reads(t, "??a", sign("?"), variable("a"))
	reads(t, "?$a", sign("?"), variable("a"))
	reads(t, "?:a", sign("?"), name(":a"))
	reads(t, "?_:a", sign("?"), node("a"))
	reads(t, "?\"a\"", sign("?"), text("a"))
	fails(t, "?_", "?_a", "?é", "$", "$ a", "$1", "$_", "$_a", "$$", "$$a", "$?", "$?a", "$:a", "$é", "$-", "a$", "a$1")
	reads(t, "?a$b?c", variable("a"), variable("b"), variable("c"))
	reads(t, "?a?", variable("a"), sign("?"))
	reads(t, "?a:b", variable("a"), name(":b"))
	reads(t, "?a-b", variable("a"), sign("-"), word("b"))
	reads(t, "?a.b", variable("a"), sign("."), word("b"))
	reads(t, "$a-b:c", variable("a"), sign("-"), name("b:c"))
	reads(t, "?a1_2__", variable("a1_2__"))
	reads(t, ":a?b", name(":a"), variable("b"))
	reads(t, ":a? b", name(":a"), sign("?"), word("b"))
	for i := range 256 {
		b := string([]byte{byte(i)})
		for _, mark := range []string{"?", "$"} {
			tells(t, mark+b)
			tells(t, mark+"a"+b)
			tells(t, mark+"a"+b+"a")
			tells(t, mark+b+"a")
		}
	}
}

// TestTexts has both marks, and every byte within, and behind a backslash.
func TestTexts(t *testing.T) {
	meant := map[byte]string{'t': "\x09", 'n': "\x0a", 'r': "\x0d", '"': `"`, '\'': `'`, '\\': `\`}
	for _, mark := range []string{`"`, "'"} {
		for i := range 256 {
			b := string([]byte{byte(i)})
			told, fits := meant[byte(i)]
			if fits {
				reads(t, mark+`\`+b+mark, text(told))
				reads(t, mark+`a\`+b+`a\`+b+`\`+b+"a"+mark, text("a"+told+"a"+told+told+"a"))
				reads(t, mark+`\\\`+b+`b`+mark, text(`\`+told+"b"))
				fails(t, mark+`\\`+`\`+b)
			} else {
				fails(t, mark+`\`+b+mark, mark+`a\`+b+"a"+mark, mark+`\`+b+`\`+b+mark, mark+`\\\`+b+mark, mark+`\n\`+b+mark)
			}
			switch {
			case b == mark:
				fails(t, mark+b+b, mark+"a"+b+"a"+mark)
				reads(t, mark+b, text(""))
				reads(t, mark+"a"+b+b+mark, text("a"), text(""))
			case b == "\\":
				fails(t, mark+b+mark, mark+"a"+b+mark)
				reads(t, mark+b+b+mark, text(b))
			case b == "\n":
				fails(t, mark+b+mark, mark+"a"+b+"a"+mark, mark+b, mark+"\\\\"+b+mark)
			default:
				reads(t, mark+b+mark, text(b))
				reads(t, mark+"a"+b+"a"+b+b+mark+mark+b+mark, text("a"+b+"a"+b+b), text(b))
				fails(t, mark+b, mark+b+b)
			}
			tells(t, mark+"a"+mark+b)
			tells(t, mark+b+mark+b)
		}
		fails(t, mark, mark+"a", mark+`\`, mark+`a\`, mark+`\`+mark, mark+`\\\`+mark, mark+"a\n"+mark, mark+"\\\n"+mark, mark+mark+mark, mark+`\u0041`+mark, mark+`\x`+mark, mark+`\0`+mark, mark+`\T`+mark, mark+`\N`+mark, mark+`\é`+mark, mark+"é", mark+"a\r\nb"+mark)
		reads(t, mark+"a\rb"+mark, text("a\rb"))
		reads(t, mark+"<a> ?b # c"+mark, text("<a> ?b # c"))
		reads(t, mark+mark+mark+mark, text(""), text(""))
		reads(t, mark+"a"+mark+mark+"b"+mark+"c", text("a"), text("b"), word("c"))
		reads(t, mark+"a"+mark+"@en", text("a"), lang("en"))
		reads(t, mark+"a"+mark+"^^<b>", text("a"), sign("^^"), ref("b"))
		reads(t, mark+"a"+mark+":b", text("a"), name(":b"))
		reads(t, "a"+mark+"b"+mark, word("a"), text("b"))
		reads(t, mark+`\t\n\r\"\'\\`+mark, text("\t\n\r\"'\\"))
		reads(t, mark+"\xc3\x28\xe2\x82 \xf0\x9f\x98\x80\xed\xa0\x80\ufffd"+mark, text("\xc3\x28\xe2\x82 \xf0\x9f\x98\x80\xed\xa0\x80\ufffd"))
	}
	reads(t, `"a'b" 'c"d'`, text("a'b"), text(`c"d`))
	reads(t, `"\'" '\"'`, text("'"), text(`"`))
	reads(t, `"'"'"'`, text("'"), text(`"`))
	fails(t, `"a'`, `'a"`, `"a" "`, `'"`, `"''`)
}

func TestLanguages(t *testing.T) {
	fails(t, "@", "@ a", "@-", "@-a", "@1", "@A", "@EN", "@_", "@@", "@@a", "@:", "@é", "@.", "a@", "@\"a\"")
	reads(t, "@a1", lang("a"), num("1"))
	reads(t, "@aB", lang("a"), word("B"))
	reads(t, "@enUS", lang("en"), word("US"))
	reads(t, "@en-US", lang("en-"), word("US"))
	reads(t, "@en--", lang("en--"))
	reads(t, "@a:b", lang("a"), name(":b"))
	reads(t, "@a@b-c", lang("a"), lang("b-c"))
	reads(t, "@a.", lang("a"), sign("."))
	reads(t, "@a-.", lang("a-"), sign("."))
	reads(t, "@a-5", lang("a-"), num("5"))
	reads(t, "@prefixa:", lang("prefixa"), name(":"))
	fails(t, "@a_", "@a_b", "@aé")
	for i := range 256 {
		b := string([]byte{byte(i)})
		tells(t, "@"+b)
		tells(t, "@"+b+"a")
		tells(t, "@a"+b)
		tells(t, "@a-"+b+"a")
	}
}

// TestNumbers: a '.' is a number's with a digit behind it alone, and one of them is.
func TestNumbers(t *testing.T) {
	reads(t, "5.", num("5"), sign("."))
	reads(t, "5..", num("5"), sign("."), sign("."))
	reads(t, "5..5", num("5"), sign("."), sign("."), num("5"))
	reads(t, "5. 5", num("5"), sign("."), num("5"))
	reads(t, "5.a", num("5"), sign("."), word("a"))
	reads(t, "5.:", num("5"), sign("."), name(":"))
	reads(t, "5.#5", num("5"), sign("."))
	reads(t, "1.2.3", num("1.2"), sign("."), num("3"))
	reads(t, "1.2.3.4", num("1.2"), sign("."), num("3.4"))
	reads(t, "1.2.", num("1.2"), sign("."))
	reads(t, "1.2..3", num("1.2"), sign("."), sign("."), num("3"))
	reads(t, ".5", sign("."), num("5"))
	reads(t, ".5.5", sign("."), num("5.5"))
	reads(t, "-5", sign("-"), num("5"))
	reads(t, "+5.0", sign("+"), num("5.0"))
	reads(t, "5-5", num("5"), sign("-"), num("5"))
	reads(t, "5e3", num("5"), word("e3"))
	reads(t, "5.5e3", num("5.5"), word("e3"))
	reads(t, "0x1F", num("0"), word("x1F"))
	reads(t, "1a:b", num("1"), name("a:b"))
	reads(t, "1:b", num("1"), name(":b"))
	reads(t, "1,5", num("1"), sign(","), num("5"))
	reads(t, "5?a", num("5"), variable("a"))
	reads(t, "5<6>7", num("5"), ref("6"), num("7"))
	reads(t, "5< 6>7", num("5"), sign("<"), num("6"), sign(">"), num("7"))
	reads(t, "000123456789012345678901234567890.000", num("000123456789012345678901234567890.000"))
	fails(t, "1_", "1_0", "5._", "5é", "\u0661", "\uff11", "5.\u0661", "\u00b2")
	for i := range 256 {
		b := string([]byte{byte(i)})
		for _, s := range []string{"5" + b, "5" + b + "5", "5." + b, "5." + b + "5", "5.5" + b, b + "5", b + ".5", "5.5" + b + "5"} {
			tells(t, s)
		}
	}
}

// TestNames: a row with '-' is a name's with a ':' behind it alone; behind that '.' belongs to it, but at its end.
func TestNames(t *testing.T) {
	reads(t, ":a.", name(":a"), sign("."))
	reads(t, ":a..", name(":a"), sign("."), sign("."))
	reads(t, ":a.b.", name(":a.b"), sign("."))
	reads(t, ":a.b..c...", name(":a.b..c"), sign("."), sign("."), sign("."))
	reads(t, ":.", name(":"), sign("."))
	reads(t, ":...", name(":"), sign("."), sign("."), sign("."))
	reads(t, ":...a", name(":...a"))
	reads(t, "a:.", name("a:"), sign("."))
	reads(t, "a:.b", name("a:.b"))
	reads(t, ":a. b", name(":a"), sign("."), word("b"))
	reads(t, ":a.:b", name(":a"), sign("."), name(":b"))
	reads(t, ":a.-", name(":a.-"))
	reads(t, ":a.é"[:3], name(":a"), sign("."))
	reads(t, "::", name(":"), name(":"))
	reads(t, ":::", name(":"), name(":"), name(":"))
	reads(t, "a:b:c", name("a:b"), name(":c"))
	reads(t, "a::b", name("a:"), name(":b"))
	reads(t, "a:b-c:d", name("a:b-c"), name(":d"))
	reads(t, "a.b:c", word("a"), sign("."), name("b:c"))
	reads(t, "a.b.c", word("a"), sign("."), word("b"), sign("."), word("c"))
	reads(t, "a :b", word("a"), name(":b"))
	reads(t, "a: b", name("a:"), word("b"))
	reads(t, "a-b", word("a"), sign("-"), word("b"))
	reads(t, "a-", word("a"), sign("-"))
	reads(t, "a--b", word("a"), sign("-"), sign("-"), word("b"))
	reads(t, "a-1:b", name("a-1:b"))
	reads(t, "a-1", word("a"), sign("-"), num("1"))
	reads(t, "a-b c:d", word("a"), sign("-"), word("b"), name("c:d"))
	reads(t, "a-b-c:", name("a-b-c:"))
	reads(t, "a-b.c:", word("a"), sign("-"), word("b"), sign("."), name("c:"))
	reads(t, "-:", sign("-"), name(":"))
	reads(t, "-a:b", sign("-"), name("a:b"))
	reads(t, "a_b-c_:1_-.2", name("a_b-c_:1_-.2"))
	reads(t, "a:1.5", name("a:1.5"))
	reads(t, "a:b@c", name("a:b"), lang("c"))
	reads(t, "a:b<c>", name("a:b"), ref("c"))
	reads(t, "a:b?c", name("a:b"), variable("c"))
	reads(t, "a:b/c:d|^e:f*", name("a:b"), sign("/"), name("c:d"), sign("|"), sign("^"), name("e:f"), sign("*"))
	fails(t, "é:a", "a:é", "aé:b", "a-é:b", "_-a:b", ":%", ":a\\b", "a:~")
	for i := range 256 {
		b := string([]byte{byte(i)})
		for _, s := range []string{b + ":", ":" + b, b + ":" + b, "a" + b + ":a", "a:a" + b, "a:a" + b + "a", "a:." + b, "a:a." + b, "a-" + b, "a-" + b + ":", "a:" + b + ".", "a:" + b + "."} {
			tells(t, s)
		}
	}
}

func TestWords(t *testing.T) {
	reads(t, "a b", word("a"), word("b"))
	reads(t, "SELECT*", word("SELECT"), sign("*"))
	reads(t, "ASK{}", word("ASK"), sign("{"), sign("}"))
	reads(t, "a1b2", word("a1b2"))
	reads(t, "a_", word("a_"))
	reads(t, "a.", word("a"), sign("."))
	reads(t, "a?", word("a"), sign("?"))
	reads(t, "a\"b\"", word("a"), text("b"))
	reads(t, "a<b>", word("a"), ref("b"))
	fails(t, "a_é", "é", "aé", "éa", "\u212a", "\uff21", "ſ", "a\xff", "\xc3", "\u0130")
	for i := range 256 {
		b := string([]byte{byte(i)})
		for _, s := range []string{b, b + b, b + "a", "a" + b, "a" + b + "a", "Z" + b + "_0"} {
			tells(t, s)
		}
	}
}

// TestSigns: two bytes go ahead of one, and '&' alone is none.
func TestSigns(t *testing.T) {
	ones := "{}()[].;,=<>!+-*/|^?"
	for _, s := range strings.Fields("&& || != <= >= ^^") {
		reads(t, s, sign(s))
		reads(t, s+s, sign(s), sign(s))
		reads(t, s+" "+s+"a", sign(s), sign(s), word("a"))
		if s == "&&" {
			fails(t, "&", "& &", "&&&", "&\n&", "a&b", "&a", "&|", "|&", "&=", "&& &", "&#\n&")
			continue
		}
		want := []api.Token{sign(s[:1]), sign(s[1:])}
		reads(t, s[:1]+" "+s[1:], want...)
		reads(t, s[:1]+"\n"+s[1:], want...)
		reads(t, s[:1]+"#\n"+s[1:], want...)
	}
	for i := range len(ones) {
		a := ones[i : i+1]
		reads(t, a, sign(a))
		reads(t, a+" ", sign(a))
		reads(t, a+" "+a, sign(a), sign(a))
		for j := range len(ones) {
			b := ones[j : j+1]
			switch a + b {
			case "||", "!=", "<=", ">=", "^^":
				reads(t, a+b, sign(a+b))
				reads(t, a+b+b, sign(a+b), sign(b))
			case "<>":
				reads(t, a+b, ref(""))
			default:
				reads(t, a+b, sign(a), sign(b))
			}
			tells(t, a+b+a)
			tells(t, a+b+b)
			tells(t, a+a+b)
		}
	}
	reads(t, "^^^", sign("^^"), sign("^"))
	reads(t, "|||", sign("||"), sign("|"))
	reads(t, "!==", sign("!="), sign("="))
	reads(t, "!!=", sign("!"), sign("!="))
	reads(t, "==", sign("="), sign("="))
	reads(t, "=<", sign("="), sign("<"))
	reads(t, "=>=", sign("="), sign(">="))
	reads(t, "<<=", sign("<"), sign("<="))
	reads(t, "**", sign("*"), sign("*"))
	fails(t, "~", "`", "%", "\\", "_", "$", "@", "\x00", "\x1f", "\x7f", "\x80", "a & b", "a % b")
}

// TestFirst: what is none is told wherever it stands, and whatever is ahead of it or behind.
func TestFirst(t *testing.T) {
	for _, s := range []string{"&", "~", "%", "\\", "`", "_", "$", "@", "\x00", "\x7f", "é", "\xff", "\"\n", "'a\n", "'\\q'", "\"\n\""} {
		for y := range alone() {
			fails(t, s+" "+y, y+" "+s, y+" "+s+" "+y, y+"\n"+s+"\n"+s, s+"#\n"+y)
			tells(t, s+y)
			tells(t, y+s)
		}
	}
}

// All, and thrown, texts

// all are all texts of up to so many of these letters.
func all(letters string, most int) []string {
	l := []string{""}
	for from, n := 0, 0; n < most; n++ {
		to := len(l)
		for _, s := range l[from:to] {
			for i := range len(letters) {
				l = append(l, s+letters[i:i+1])
			}
		}
		from = to
	}
	return l
}

func TestAllShort(t *testing.T) {
	for letters, most := range map[string]int{"<>=a# \n": 5, "?$_:a1": 5, "\"'\\n\nt": 6, "@aA-1": 5, "1.a:-": 6, "&|!=^<>": 5, ":.a-_1": 5, "#\n\r a\"": 5} {
		for _, s := range all(letters, most) {
			tells(t, s)
		}
	}
	var bytes []byte
	for i := range 256 {
		bytes = append(bytes, byte(i))
	}
	for _, s := range all(string(bytes), 2) {
		tells(t, s)
	}
}

// TestEachByte puts every byte at each place of some texts, between their bytes and for them.
func TestEachByte(t *testing.T) {
	for _, s := range samples() {
		for at := range len(s) + 1 {
			for i := range 256 {
				c := string([]byte{byte(i)})
				tells(t, s[:at]+c+s[at:])
				tells(t, s[:at]+c+s[min(at+1, len(s)):])
			}
		}
	}
}

// samples are texts of all kinds.
func samples() []string {
	return []string{
		"", " # a\n", "?a < 5", "<a:b>", "_:a_1 $b", "\"a\\n'\"@en-us 'b\\''^^<c>", "-5.25 . 7.", "a-b:c.d. :e", "SELECT*{?a a b}", "a&&b||!c!=d<=e>=f^^g", "x:y+/z:w*|^<q>?", "<a#b #c\n>",
	}
}

// die throws numbers.
type die uint64

func (d *die) of(k int) int {
	*d = *d*6364136223846793005 + 1442695040888963407
	return int(uint64(*d) >> 33 % uint64(k))
}

// text throws one of tokens, their pieces, blanks, remarks and bytes.
func (d *die) text(pieces []string, most int) string {
	var b []byte
	for range d.of(most + 1) {
		switch d.of(12) {
		case 0:
			b = append(b, byte(d.of(256)))
		case 1, 2:
			b = append(b, " \t\n\r"[d.of(4)])
		case 3:
			b = append(b, "<>\"'\\#?$_:@.-&|^=a1"[d.of(19)])
		case 4:
			b = append(b, "# a\n"...)
		case 5:
			p := pieces[d.of(len(pieces))]
			b = append(b, p[:d.of(len(p)+1)]...)
		default:
			b = append(b, pieces[d.of(len(pieces))]...)
		}
	}
	return string(b)
}

func TestThrown(t *testing.T) {
	var pieces []string
	for s := range alone() {
		pieces = append(pieces, s)
	}
	slices.Sort(pieces)
	d := die(1101)
	for range 60000 {
		tells(t, d.text(pieces, 12))
	}
	for range 100 {
		tells(t, d.text(pieces, 600))
	}
}

// TestParted: texts with a line feed between have the tokens of both.
func TestParted(t *testing.T) {
	var pieces []string
	for s := range alone() {
		pieces = append(pieces, s)
	}
	slices.Sort(pieces)
	d := die(1102)
	for range 20000 {
		a, b := d.text(pieces, 6), d.text(pieces, 6)
		l, e := lex.Tokens(a)
		m, f := lex.Tokens(b)
		if e != api.OK || f != api.OK {
			fails(t, a+"\n"+b)
			continue
		}
		reads(t, a+"\n"+b, append(l, m...)...)
	}
}

// P1102

// TestOrder has many tokens, each another one, and each where it stands.
func TestOrder(t *testing.T) {
	var s strings.Builder
	var want []api.Token
	for i := range 60 {
		n := strconv.Itoa(i)
		s.WriteString("<i" + n + "> x:n" + n + " _:b" + n + "\t?v" + n + " 't" + n + "'@l-" + strings.Repeat("m", i%7) + " " + n + "." + n + " w" + n + " # r" + n + "\n")
		want = append(want, ref("i"+n), name("x:n"+n), node("b"+n), variable("v"+n), text("t"+n), lang("l-"+strings.Repeat("m", i%7)), num(n+"."+n), word("w"+n))
	}
	reads(t, s.String(), want...)
	stands(t, s.String())
}

// P1 to P7

// TestAnyLong (P1): long texts that begin many tokens, and end few.
func TestAnyLong(t *testing.T) {
	for _, s := range []string{"<", "<a", "a-", "-a", "?", "\\", "\"", "'", "'\"", "\"\\\"", "@", "@a-", "1.", ".1", ":", ":.", ".", "_", "_:", "_:a", "#", "#\n", "a#\n", "\xff", "é", "<é", "^", "|", "!", "&", "a:-.", "\x00"} {
		tells(t, strings.Repeat(s, longest/len(s)))
		tells(t, " "+strings.Repeat(s, (longest-1)/len(s)))
		refuses(t, strings.Repeat(s, 1<<20), api.ErrLong)
	}
}

// TestOwnMemory (P2): a text that was made of bytes that change later, and tokens that are changed.
func TestOwnMemory(t *testing.T) {
	for _, s := range append(samples(), "<abc>", "_:abc", "?abc", "'abc'", "'a\\tbc'", "@abc", "123.4", "abc:def", "abc", "&&", "{ }") {
		want, _ := tokens(s)
		b := []byte(s)
		got, _ := lex.Tokens(unsafe.String(unsafe.SliceData(b), len(b)))
		if string(b) != s {
			t.Errorf("P2: %q is changed: %q", s, b)
		}
		clear(b)
		if !slices.Equal(got, want) {
			t.Errorf("P2: %q is kept: %s", s, show(got))
		}
		got, _ = lex.Tokens(s)
		for i := range got[:cap(got)] {
			got[:cap(got)][i] = api.Token{Kind: -1, S: "gone"}
		}
		reads(t, s, want...)
	}
}

// TestSideBySide (P3, P7): the same calls answer the same, many at once too.
func TestSideBySide(t *testing.T) {
	var w sync.WaitGroup
	for range 8 {
		w.Go(func() {
			for range 50 {
				for _, s := range samples() {
					tells(t, s)
				}
			}
		})
	}
	w.Wait()
}

func FuzzTokens(f *testing.F) {
	for _, s := range samples() {
		f.Add(s)
	}
	for s := range alone() {
		f.Add(s)
	}
	f.Fuzz(tells)
}
