package turtle_test

import (
	"slices"
	"strconv"
	"strings"
	"testing"

	"triad/api"
	"triad/iri"
	"triad/lex"
	"triad/term"
	"triad/turtle"
)

// The chapter's own words, as rules: a thing, the kinds of tokens that it begins with ('*': any other, or the end), and what it then is: tokens, things, and, behind '#', what is done. They are gone through with a stack, and without a look further ahead.
const chapter = `
document  end
document  prefix                  prefix name: iri #prefix . document
document  base                    base iri #base . document
document  [                       [ #blank inside ] behind . #drop document
document  iri/name/name:/blank/(  node verbs . #drop document
inside    ]
inside    *                       verbs
behind    .
behind    *                       verbs
verbs     *                       predicate object #tell others #drop more
predicate a                       a #type
predicate *                       ref
others    ,                       , object #tell others
others    *
more      ;                       ; again
more      *
again     ;                       ; again
again     iri/name/name:/a        verbs
again     *
object    [                       [ #blank inside ]
object    text                    text #text tag
object    num                     num #number
object    +                       + num #number
object    -                       - num #minus
object    true                    true #bool
object    false                   false #bool
object    *                       node
tag       lang/prefix/base        #lang
tag       ^^                      ^^ ref #typed
tag       *
node      blank                   blank #label
node      (                       ( #list items ) #listed
node      *                       ref
items     )
items     *                       object #item items
ref       iri                     iri #iri
ref       name                    name #name
ref       name:                   name: #name
`

// rules are those by things and kinds.
var rules = func() map[[2]string][]string {
	m := map[[2]string][]string{}
	for line := range strings.Lines(chapter) {
		f := strings.Fields(line)
		if len(f) == 0 {
			continue
		}
		for kind := range strings.SplitSeq(f[1], "/") {
			m[[2]string{f[0], kind}] = f[2:]
		}
	}
	return m
}()

// things are those that have rules.
var things = func() map[string]bool {
	m := map[string]bool{}
	for k := range rules {
		m[k[0]] = true
	}
	return m
}()

// machine goes through the rules.
type machine struct {
	l        []api.Token
	at       int // the token that comes next
	base     string
	label    string
	prefixes map[string]string
	terms    []api.Term
	lists    [][]api.Term // the blanks of collections that are on their way
	blanks   int
	deep     int
	told     []api.Triple
	e        api.Errno
}

// parse is Parse by these, and at which token it ended.
func parse(s, base, label string) ([]api.Triple, api.Errno, int) {
	l, e := lex.Tokens(s)
	if e != api.OK {
		return nil, e, 0
	}
	m := machine{l: l, base: base, label: label, prefixes: map[string]string{}}
	todo := []string{"document"}
	for len(todo) > 0 && m.e == api.OK {
		y := todo[len(todo)-1]
		todo = todo[:len(todo)-1]
		switch {
		case things[y]:
			is, there := rules[[2]string{y, m.kind()}]
			if !there {
				is, there = rules[[2]string{y, "*"}]
			}
			if !there {
				m.e = api.ErrWord
			}
			for _, z := range slices.Backward(is) {
				todo = append(todo, z)
			}
		case strings.HasPrefix(y, "#"):
			m.do(y)
		case y != m.kind():
			m.e = api.ErrWord
		default:
			m.pass(y)
		}
	}
	if m.e != api.OK {
		return nil, m.e, m.at
	}
	return m.told, api.OK, m.at
}

// kind is the next token's.
func (m *machine) kind() string {
	if m.at == len(m.l) {
		return "end"
	}
	t := m.l[m.at]
	switch t.Kind {
	case api.TIri:
		return "iri"
	case api.TName:
		if strings.HasSuffix(t.S, ":") {
			return "name:"
		}
		return "name"
	case api.TBlank:
		return "blank"
	case api.TText:
		return "text"
	case api.TNum:
		return "num"
	case api.TLang:
		if t.S == "prefix" || t.S == "base" {
			return t.S
		}
		return "lang"
	case api.TWord:
		if t.S == "a" || t.S == "true" || t.S == "false" {
			return t.S
		}
		return "word"
	case api.TSign:
		return t.S
	}
	return "other"
}

// pass goes past a token.
func (m *machine) pass(kind string) {
	switch kind {
	case "[", "(":
		m.deep++
		if m.deep > 10 {
			m.e = api.ErrDeep
		}
	case "]", ")":
		m.deep--
	}
	m.at++
}

func (m *machine) push(t api.Term) { m.terms = append(m.terms, t) }

func (m *machine) pop() api.Term {
	t := m.terms[len(m.terms)-1]
	m.terms = m.terms[:len(m.terms)-1]
	return t
}

func (m *machine) tell(s, p, o api.Term) {
	if m.e != api.OK {
		return
	}
	if len(m.told) == 300 {
		m.e = api.ErrMany
		return
	}
	m.e = term.Fits(api.Triple{s, p, o})
	m.told = append(m.told, api.Triple{s, p, o})
}

func (m *machine) blank() api.Term {
	m.blanks++
	return node(m.label + strconv.Itoa(m.blanks))
}

// do does what stands behind '#', with the tokens that it is behind.
func (m *machine) do(y string) {
	back := func(n int) string { return m.l[m.at-n].S }
	switch y {
	case "#prefix":
		m.prefixes[back(2)] = iri.Resolve(m.base, back(1))
	case "#base":
		m.base = iri.Resolve(m.base, back(1))
	case "#iri":
		m.push(ref(iri.Resolve(m.base, back(1))))
	case "#name":
		prefix, local, _ := strings.Cut(back(1), ":")
		full, there := m.prefixes[prefix+":"]
		if !there {
			m.at-- // it is this one that does not fit
			m.e = api.ErrName
		}
		m.push(ref(full + local))
	case "#type":
		m.push(ref(api.RType))
	case "#label":
		m.push(node(back(1)))
	case "#text":
		m.push(lit(back(1)))
	case "#lang":
		t := m.pop()
		t.Lang = m.l[m.at].S
		m.push(t)
		m.at++
	case "#typed":
		y := m.pop()
		m.push(typed(m.pop().S, y.S))
	case "#number", "#minus":
		s := back(1)
		kind := api.XInt
		if strings.Contains(s, ".") {
			kind = api.XDec
		}
		if y == "#minus" {
			s = "-" + s
		}
		m.push(typed(s, kind))
	case "#bool":
		m.push(typed(back(1), api.XBool))
	default:
		m.join(y)
	}
}

// join is do of what is told of several.
func (m *machine) join(y string) {
	switch y {
	case "#blank":
		m.push(m.blank())
	case "#drop":
		m.pop()
	case "#tell":
		o := m.pop()
		n := len(m.terms)
		m.tell(m.terms[n-2], m.terms[n-1], o)
	case "#list":
		m.lists = append(m.lists, nil)
	case "#item":
		o := m.pop()
		l := &m.lists[len(m.lists)-1]
		*l = append(*l, m.blank())
		n := len(*l)
		if n > 1 {
			m.tell((*l)[n-2], ref(api.RRest), (*l)[n-1])
		}
		m.tell((*l)[n-1], ref(api.RFirst), o)
	case "#listed":
		l := m.lists[len(m.lists)-1]
		m.lists = m.lists[:len(m.lists)-1]
		if len(l) == 0 {
			m.push(ref(api.RNil))
			return
		}
		m.push(l[0])
		m.tell(l[len(l)-1], ref(api.RRest), ref(api.RNil))
	default:
		panic(y)
	}
}

// agrees tells a fault where Parse and the rules differ; it answers what both tell, and at which token they end.
func agrees(t *testing.T, s, base, label string) ([]api.Triple, api.Errno, int) {
	t.Helper()
	l, e := turtle.Parse(s, base, label)
	want, f, at := parse(s, base, label)
	if e != f || !slices.Equal(l, want) {
		t.Errorf("P1201: %s of %s, %s: %s %v, not %s %v", clip(s), clip(base), clip(label), show(l), e, show(want), f)
	}
	for _, y := range l {
		if term.Fits(y) != api.OK {
			t.Errorf("P1202: %s of %s, %s: %s", clip(s), clip(base), clip(label), show(l))
		}
	}
	return l, e, at
}

// holds is agrees with this base and label.
func holds(t *testing.T, s string) {
	t.Helper()
	agrees(t, s, "http://x/y/z?q#f", "n")
}

// All short, and thrown, texts

// alphabet are tokens of all kinds.
func alphabet() []string {
	return []string{"<a>", "<>", "p:", "x:", "p:b", "_:c", "a", "true", "false", "w", "'t'", "@en", "@prefix", "@base", "5", "5.5", "+", "-", "^^", ".", ";", ",", "[", "]", "(", ")", "?v", "?", "{"}
}

// grow goes through all rows of up to so many more tokens behind a text of which none yet does not fit.
func grow(t *testing.T, front string, most int) int {
	n := 0
	for _, s := range alphabet() {
		n++
		s = front + s + " "
		_, e, at := agrees(t, s, "http://x/y", "n")
		if most > 1 && (e == api.OK || e == api.ErrWord && at == strings.Count(s, " ")) {
			n += grow(t, s, most-1)
		}
	}
	return n
}

func TestAllShort(t *testing.T) {
	n := grow(t, "", 5)
	for _, front := range []string{"@prefix p: <q> . ", "<a> a [ ", "<a> a ( ", "[ a 5 ; ", "( [ ] ", "<a> a 't' ", "[ ] "} {
		n += grow(t, front, 4)
	}
	if n < 100000 {
		t.Errorf("%d texts only", n)
	}
}

// TestEachByte puts every byte at each place of some texts, between their bytes and for them.
func TestEachByte(t *testing.T) {
	for _, s := range samples() {
		for at := range len(s) + 1 {
			for i := range 256 {
				c := string([]byte{byte(i)})
				holds(t, s[:at]+c+s[at:])
				holds(t, s[:at]+c+s[min(at+1, len(s)):])
			}
		}
	}
}

// die throws numbers.
type die uint64

func (d *die) of(k int) int {
	*d = *d*6364136223846793005 + 1442695040888963407
	return int(uint64(*d) >> 33 % uint64(k))
}

func (d *die) pick(l ...string) string { return l[d.of(len(l))] }

// author writes documents that have no error, and what is to be told of them.
type author struct {
	die
	text     []byte
	want     []api.Triple
	base     string
	label    string
	prefixes map[string]string
	blanks   int
	room     int // how many more objects there may be
}

// write puts tokens behind one another, with blanks or remarks between.
func (a *author) write(l ...string) {
	for _, s := range l {
		a.text = append(a.text, s...)
		a.text = append(a.text, a.pick(" ", " ", " ", "\n", "\t ", "\r\n", " #.\n")...)
	}
}

func (a *author) blank() api.Term {
	a.blanks++
	return node(a.label + strconv.Itoa(a.blanks))
}

func (a *author) tell(s, p, o api.Term) { a.want = append(a.want, api.Triple{s, p, o}) }

// ref writes a reference, as it is or as a name.
func (a *author) ref() api.Term {
	for _, p := range []string{":", "p:", "a:", "p-q:"} {
		full, there := a.prefixes[p]
		if there && a.of(4) == 0 {
			local := a.pick("", "b", "b.c", "-", "1", "..d")
			a.write(p + local)
			return ref(full + local)
		}
	}
	s := a.pick("b", "c/d", "/e", "?f", "#g", "h:i", "//j/k", "../l", "")
	a.write("<" + s + ">")
	return ref(iri.Resolve(a.base, s))
}

// literal writes one.
func (a *author) literal() api.Term {
	if a.of(2) == 0 {
		s := a.pick("", "s", "5", "t u", "#", "é")
		mark := a.pick("'", `"`)
		a.write(mark + s + mark)
		switch a.of(3) {
		case 0:
			l := a.pick("en", "e-n", "base", "prefix")
			a.write("@" + l)
			return api.Term{Kind: api.Literal, S: s, Lang: l}
		case 1:
			a.write("^^")
			return typed(s, a.ref().S)
		}
		return lit(s)
	}
	if a.of(3) == 0 {
		s := a.pick("true", "false")
		a.write(s)
		return typed(s, api.XBool)
	}
	sign := a.pick("", "+", "-")
	if sign != "" {
		a.write(sign)
	}
	s, kind := a.pick("0", "5", "007", "12345678901234567890"), api.XInt
	if a.of(2) == 0 {
		s, kind = s+a.pick(".0", ".25"), api.XDec
	}
	a.write(s)
	return typed(strings.TrimPrefix(sign, "+")+s, kind)
}

// object writes one, and answers it when it is whole.
func (a *author) object(deep int) api.Term {
	a.room--
	kind := a.of(8)
	switch {
	case kind < 2:
		return a.ref()
	case kind == 2:
		s := a.pick("x", "y_1", "1", a.label+"1")
		a.write("_:" + s)
		return node(s)
	case kind < 5 || deep == 10 || a.room < 1:
		return a.literal()
	case kind == 5:
		return a.collection(deep)
	}
	return a.bracket(deep)
}

func (a *author) bracket(deep int) api.Term {
	a.write("[")
	s := a.blank()
	if a.of(4) > 0 {
		a.verbs(s, deep+1)
	}
	a.write("]")
	return s
}

func (a *author) collection(deep int) api.Term {
	a.write("(")
	first, last := ref(api.RNil), api.Term{}
	for range a.of(4) {
		o := a.object(deep + 1)
		b := a.blank()
		if last.Kind == 0 {
			first = b
		} else {
			a.tell(last, ref(api.RRest), b)
		}
		a.tell(b, ref(api.RFirst), o)
		last = b
	}
	if last.Kind != 0 {
		a.tell(last, ref(api.RRest), ref(api.RNil))
	}
	a.write(")")
	return first
}

func (a *author) verbs(s api.Term, deep int) {
	for {
		p := ref(api.RType)
		if a.of(4) == 0 {
			a.write("a")
		} else {
			p = a.ref()
		}
		a.tell(s, p, a.object(deep))
		for a.of(3) == 0 {
			a.write(",")
			a.tell(s, p, a.object(deep))
		}
		end := a.of(3) > 0
		if !end {
			a.write(";")
		}
		for a.of(6) == 0 {
			a.write(";")
			end = end || a.of(2) == 0 // a ';' may end them, too
			if end {
				return
			}
		}
		if end {
			return
		}
	}
}

func (a *author) statement() {
	switch a.of(7) {
	case 0:
		p, s := a.pick(":", "p:", "a:", "p-q:"), a.pick("v", "w/", "#", "x:y", "/z#")
		a.write("@prefix", p, "<"+s+">")
		a.prefixes[p] = iri.Resolve(a.base, s)
	case 1:
		s := a.pick("v/", "../w", "x://y/z", "?q", "#", "/")
		a.write("@base", "<"+s+">")
		a.base = iri.Resolve(a.base, s)
	case 2:
		s := a.bracket(0)
		if a.of(2) == 0 {
			a.verbs(s, 0)
		}
	case 3:
		a.verbs(a.collection(0), 0)
	case 4:
		a.write("_:x")
		a.verbs(node("x"), 0)
	default:
		a.verbs(a.ref(), 0)
	}
	a.write(".")
}

// document is a new one.
func (d *die) document() *author {
	a := &author{die: *d, base: d.pick("http://x/y/z", "x:y", "//x/y?z#w"), label: d.pick("n", "", "g_7x"), prefixes: map[string]string{}, room: 60}
	base := a.base
	for range a.of(12) {
		a.statement()
	}
	*d, a.base = a.die, base
	return a
}

// nested throws the front of a document with many '[' and '(', of which some are ended.
func (d *die) nested() string {
	s, ends := "<a> a ", ""
	for range d.of(70) {
		n := len(ends)
		switch {
		case n == 0 || d.of(5) < 3:
			mark := d.of(2)
			s += []string{"[ a ", "( "}[mark]
			ends += "])"[mark : mark+1]
			continue
		case ends[n-1] == ']':
			s += "5 "
		}
		for n > 0 && d.of(3) > 0 { // an object is whole
			n--
			s += ends[n:n+1] + " "
		}
		ends = ends[:n]
		if n == 0 || ends[n-1] == ']' {
			s += d.pick(", ", "; a ")
		}
	}
	return s
}

// TestThrown has documents that are triples, and what is left when a token of one is gone, or another, or twice there.
func TestThrown(t *testing.T) {
	d := die(1201)
	had := map[api.Errno]int{}
	for range 2000 {
		a := d.document()
		s := string(a.text)
		l, e, _ := agrees(t, s, a.base, a.label)
		had[e]++
		switch {
		case e == api.ErrLong || e == api.ErrMany: // it became too long
		case e != api.OK || !slices.Equal(l, a.want):
			t.Fatalf("P1201: %s of %s: %s %v, not %s", clip(s), a.base, show(l), e, show(a.want))
		}
		f := strings.SplitAfter(s, " ")
		for range 4 {
			i, k := d.of(len(f)), d.of(len(f))
			for _, m := range [][]string{slices.Delete(slices.Clone(f), i, i+1), slices.Insert(slices.Clone(f), i, f[k]), slices.Replace(slices.Clone(f), i, i+1, f[k]), slices.Insert(slices.Clone(f), i, alphabet()[d.of(len(alphabet()))]+" "), f[:i]} {
				_, e, _ = agrees(t, strings.Join(m, ""), a.base, a.label)
				had[e]++
			}
		}
	}
	pieces := append(alphabet(), "((((", "[ a [ a [ a", "'"+x(61)+"'", "<a> <b>", "<a> <b> <c> .", "@prefix p: <q> .", "# \n")
	for range 10000 {
		s := d.pick("", "<a> <b> ", "( ")
		for range d.of(30) {
			s += d.pick(pieces...) + d.pick(" ", " ", "", "\n")
		}
		_, e, _ := agrees(t, s, d.pick("", "http://x/"), "n")
		had[e]++
		_, e, _ = agrees(t, d.nested(), "", "n")
		had[e]++
		b := make([]byte, d.of(12))
		for i := range b {
			b[i] = byte(d.of(256))
		}
		holds(t, string(b))
		holds(t, "<a> <b> "+string(b)+" .")
	}
	for _, e := range []api.Errno{api.OK, api.ErrWord, api.ErrName, api.ErrArg, api.ErrLong, api.ErrDeep} {
		if had[e] < 50 {
			t.Errorf("%v was thrown %d times only", e, had[e])
		}
	}
}

func FuzzParse(f *testing.F) {
	for _, s := range samples() {
		f.Add(s, "http://x/y/z", "n")
		f.Add(s, "", "")
	}
	d := die(12)
	for range 20 {
		a := d.document()
		f.Add(string(a.text), a.base, a.label)
	}
	f.Fuzz(func(t *testing.T, s, base, label string) { agrees(t, s, base, label) })
}
