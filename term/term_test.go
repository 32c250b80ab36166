package term_test

import (
	"bytes"
	"math"
	"regexp"
	"slices"
	"strconv"
	"strings"
	"testing"

	"triad/api"
	"triad/term"
)

// is tells a fault where an error is another one.
func is(t *testing.T, what string, got, want api.Errno) {
	t.Helper()
	if got != want {
		t.Errorf("%s: %v, not %v", what, got, want)
	}
}

// checks tells a fault where Check answers another error.
func checks(t *testing.T, x api.Term, want api.Errno) {
	t.Helper()
	is(t, "P601: "+show(x), term.Check(x), want)
}

// show tells a term for a fault.
func show(t api.Term) string {
	return strconv.Itoa(t.Kind) + " " + strconv.Quote(clip(t.S)) + " " + strconv.Quote(clip(t.Lang)) + " " + strconv.Quote(clip(t.Type))
}

func clip(s string) string {
	if len(s) <= 24 {
		return s
	}
	return s[:10] + ".." + strconv.Itoa(len(s))
}

func x(n int) string { return strings.Repeat("x", n) }

// kinds are those that a term may have.
var kinds = []int{api.Iri, api.Blank, api.Literal}

// nones are kinds that are none.
var nones = []int{0, -1, -2, -3, api.Var, 5, 255, 256, 257, 258, 259, -253, -254, -255, 1 << 32, 1<<32 + 1, math.MaxInt, math.MinInt, math.MinInt + 1}

// The forms that the chapter tells, as patterns.
var (
	iriForm   = regexp.MustCompile(`^[^\x00-\x20<>"{}|^\\` + "`" + `]+$`)
	blankForm = regexp.MustCompile(`^[A-Za-z0-9_]{1,20}$`)
	langForm  = regexp.MustCompile(`^[a-z][a-z-]*$`)
)

// check is Check by these.
func check(t api.Term) api.Errno {
	if !slices.Contains(kinds, t.Kind) {
		return api.ErrKind
	}
	if len(t.S) > 60 || len(t.Type) > 60 || len(t.Lang) > 8 {
		return api.ErrLong
	}
	var good bool
	switch t.Kind {
	case api.Iri:
		good = iriForm.MatchString(t.S) && t.Lang+t.Type == ""
	case api.Blank:
		good = blankForm.MatchString(t.S) && t.Lang+t.Type == ""
	case api.Literal:
		good = (t.Lang == "" || t.Type == "") && (t.Lang == "" || langForm.MatchString(t.Lang)) && (t.Type == "" || iriForm.MatchString(t.Type))
	}
	if !good {
		return api.ErrArg
	}
	return api.OK
}

// die throws numbers.
type die uint64

func (d *die) of(k int) int {
	*d = *d*6364136223846793005 + 1442695040888963407
	return int(uint64(*d) >> 33 % uint64(k))
}

// text throws one of few letters, so that the same ones come again, and now and then one that is too long.
func (d *die) text(letters string, most int) string {
	n := d.of(4)
	if d.of(8) == 0 {
		n = max(most-1+d.of(3), 0)
	}
	var b []byte
	for range n {
		b = append(b, letters[d.of(len(letters))])
	}
	return string(b)
}

// any throws a term that may be or not.
func (d *die) any() api.Term {
	t := api.Term{Kind: d.of(6) - 1, S: d.text("ab_-\"\\\n>\x00\xc3", 60)}
	if d.of(2) == 0 {
		t.S = d.text("aZ_9", 20)
	}
	if d.of(3) == 0 {
		t.Lang = d.text("ab-", 8)
	}
	if d.of(3) == 0 {
		t.Type = d.text("ab:/ ", 60)
	}
	return t
}

// good throws a term.
func (d *die) good() api.Term {
	for {
		if t := d.any(); check(t) == api.OK {
			return t
		}
	}
}

// P601

func TestKinds(t *testing.T) {
	for _, k := range nones {
		for _, y := range []api.Term{{}, {S: "a"}, {S: x(61)}, {S: " "}, {Lang: x(9)}, {Type: x(61)}, {Lang: "en", Type: "a"}, {S: "a", Lang: "-"}} {
			y.Kind = k
			checks(t, y, api.ErrKind)
		}
	}
	for _, k := range kinds {
		checks(t, api.Term{Kind: k, S: "a"}, api.OK)
	}
}

// TestLengths: with all else as it may be, and with all else as it may not: what is too long is told ahead of it.
func TestLengths(t *testing.T) {
	for _, k := range kinds {
		for _, s := range []string{"", "a", " ", "-", x(21), x(60)} {
			for _, l := range []string{"", "en", "-", "EN", x(8)} {
				for _, y := range []string{"", "a", " ", x(60)} {
					for _, z := range []api.Term{
						{S: x(61), Lang: l, Type: y}, {S: s, Lang: x(9), Type: y}, {S: s, Lang: l, Type: x(61)},
						{S: strings.Repeat(" ", 61), Lang: l, Type: y}, {S: s, Lang: strings.Repeat("-", 9), Type: y}, {S: s, Lang: l, Type: strings.Repeat("<", 61)},
						{S: x(70000), Lang: x(70000), Type: x(70000)},
					} {
						z.Kind = k
						checks(t, z, api.ErrLong)
					}
				}
			}
		}
	}
	for _, z := range []api.Term{
		{Kind: api.Iri, S: x(60)}, {Kind: api.Blank, S: x(20)}, {Kind: api.Literal, S: x(60)},
		{Kind: api.Literal, S: x(60), Lang: x(8)}, {Kind: api.Literal, S: x(60), Type: x(60)}, {Kind: api.Literal, Lang: x(7) + "-"},
	} {
		checks(t, z, api.OK)
	}
	checks(t, api.Term{Kind: api.Iri, S: strings.Repeat("é", 30)}, api.OK)
	checks(t, api.Term{Kind: api.Iri, S: strings.Repeat("é", 30) + "x"}, api.ErrLong) // bytes, not signs
	checks(t, api.Term{Kind: api.Literal, S: strings.Repeat("é", 31)}, api.ErrLong)
}

func TestEmpty(t *testing.T) {
	checks(t, api.Term{Kind: api.Iri}, api.ErrArg)
	checks(t, api.Term{Kind: api.Blank}, api.ErrArg)
	checks(t, api.Term{Kind: api.Literal}, api.OK)
	checks(t, api.Term{Kind: api.Literal, Lang: "en"}, api.OK)
	checks(t, api.Term{Kind: api.Literal, Type: "a"}, api.OK)
}

// around are the places where a byte may stand: alone, first, between, last.
func around(c byte) []string {
	s := string([]byte{c})
	return []string{s, s + "a", "a" + s + "a", "a" + s}
}

// told is OK or ErrArg.
func told(may bool) api.Errno {
	if may {
		return api.OK
	}
	return api.ErrArg
}

// TestEachByte goes through every byte at each place of each part.
func TestEachByte(t *testing.T) {
	for i := range 256 {
		c := byte(i)
		inIri := i > 32 && !slices.Contains([]byte{'<', '>', '"', '{', '}', '|', '^', 92, 96}, c)
		small := 'a' <= c && c <= 'z'
		inBlank := small || 'A' <= c && c <= 'Z' || '0' <= c && c <= '9' || c == '_'
		for at, s := range around(c) {
			checks(t, api.Term{Kind: api.Iri, S: s}, told(inIri))
			checks(t, api.Term{Kind: api.Blank, S: s}, told(inBlank))
			checks(t, api.Term{Kind: api.Literal, S: s}, api.OK)
			checks(t, api.Term{Kind: api.Literal, S: s, Type: s}, told(inIri))
			checks(t, api.Term{Kind: api.Literal, S: s, Lang: s}, told(small || c == '-' && at >= 2))
			checks(t, api.Term{Kind: api.Iri, S: "a", Lang: s}, api.ErrArg)
			checks(t, api.Term{Kind: api.Iri, S: "a", Type: s}, api.ErrArg)
			checks(t, api.Term{Kind: api.Blank, S: "a", Lang: s}, api.ErrArg)
			checks(t, api.Term{Kind: api.Blank, S: "a", Type: s}, api.ErrArg)
			checks(t, api.Term{Kind: api.Literal, S: "a", Lang: "en", Type: s}, api.ErrArg)
			checks(t, api.Term{Kind: api.Literal, S: "a", Lang: s, Type: "a"}, api.ErrArg)
		}
	}
}

func TestBlanks(t *testing.T) {
	for n := range 65 {
		want := told(1 <= n && n <= 20)
		if n > 60 {
			want = api.ErrLong
		}
		checks(t, api.Term{Kind: api.Blank, S: x(n)}, want)
		checks(t, api.Term{Kind: api.Blank, S: strings.Repeat("_", n)}, want)
	}
	checks(t, api.Term{Kind: api.Blank, S: x(19) + "-"}, api.ErrArg)
	checks(t, api.Term{Kind: api.Blank, S: "-" + x(19)}, api.ErrArg)
	checks(t, api.Term{Kind: api.Blank, S: "é"}, api.ErrArg)
	checks(t, api.Term{Kind: api.Blank, S: "9"}, api.OK)
}

func TestLangs(t *testing.T) {
	for s, want := range map[string]api.Errno{
		"e": api.OK, "en": api.OK, "en-": api.OK, "en-us": api.OK, "e--x": api.OK, "a-------": api.OK,
		"-": api.ErrArg, "-en": api.ErrArg, "EN": api.ErrArg, "en-US": api.ErrArg, "e_n": api.ErrArg, "en1": api.ErrArg, "e n": api.ErrArg, "é": api.ErrArg, "aé": api.ErrArg,
		"a--------": api.ErrLong, "-aaaaaaaa": api.ErrLong,
	} {
		checks(t, api.Term{Kind: api.Literal, S: "a", Lang: s}, want)
	}
}

// P602

// named are terms and their texts.
func named() map[string]api.Term {
	return map[string]api.Term{
		`"a"@en`:                           {Kind: api.Literal, S: "a", Lang: "en"},
		`<a>`:                              {Kind: api.Iri, S: "a"},
		`<http://a.b/c#é'&>`:               {Kind: api.Iri, S: "http://a.b/c#é'&"},
		`_:x`:                              {Kind: api.Blank, S: "x"},
		`_:0_Z`:                            {Kind: api.Blank, S: "0_Z"},
		`""`:                               {Kind: api.Literal},
		`""@de-at`:                         {Kind: api.Literal, Lang: "de-at"},
		`""^^<a>`:                          {Kind: api.Literal, Type: "a"},
		`"5"^^<` + api.XInt + `>`:          {Kind: api.Literal, S: "5", Type: api.XInt},
		`"\t\n\r\"\\"`:                     {Kind: api.Literal, S: "\t\n\r\"\\"},
		`"\\t"`:                            {Kind: api.Literal, S: `\t`},
		`"\"@en"`:                          {Kind: api.Literal, S: `"@en`},
		`"\n\n"@en`:                        {Kind: api.Literal, S: "\n\n", Lang: "en"},
		"\"\x00\x08\x0b\x0c\x0e\x7f\xff\"": {Kind: api.Literal, S: "\x00\x08\x0b\x0c\x0e\x7f\xff"},
		`"<a> _:b 'é' ^^@"`:                {Kind: api.Literal, S: "<a> _:b 'é' ^^@"},
	}
}

func TestText(t *testing.T) {
	for want, x := range named() {
		if got := term.Text(x); got != want {
			t.Errorf("P602: %s, not %s", got, want)
		}
		checks(t, x, api.OK)
	}
}

// escapes are the bytes that do not stand as they are.
var escapes = strings.NewReplacer("\t", `\t`, "\n", `\n`, "\r", `\r`, `"`, `\"`, `\`, `\\`)

func TestTextBytes(t *testing.T) {
	for i := range 256 {
		for _, s := range around(byte(i)) {
			if got, want := term.Text(api.Term{Kind: api.Literal, S: s}), `"`+escapes.Replace(s)+`"`; got != want {
				t.Errorf("P602: %q, not %q", got, want)
			}
			y := api.Term{Kind: api.Iri, S: s}
			if got := term.Text(y); term.Check(y) == api.OK && got != "<"+s+">" {
				t.Errorf("P602: %q", got)
			}
		}
	}
}

func TestBytes(t *testing.T) {
	for want, y := range map[string]api.Term{
		"\x01\x01\x00a\x00\x00\x00\x00":                                    {Kind: api.Iri, S: "a"},
		"\x02\x03\x00a_9\x00\x00\x00\x00":                                  {Kind: api.Blank, S: "a_9"},
		"\x03\x00\x00\x00\x00\x00\x00":                                     {Kind: api.Literal},
		"\x03\x01\x00a\x02\x00en\x00\x00":                                  {Kind: api.Literal, S: "a", Lang: "en"},
		"\x03\x02\x00\n\"\x00\x00\x01\x00b":                                {Kind: api.Literal, S: "\n\"", Type: "b"},
		"\x03\x3c\x00" + x(60) + "\x08\x00" + x(8) + "\x00\x00":            {Kind: api.Literal, S: x(60), Lang: x(8)},
		"\x03\x3c\x00" + x(60) + "\x00\x00\x3c\x00" + x(60):                {Kind: api.Literal, S: x(60), Type: x(60)},
		"\x01\x3c\x00" + strings.Repeat("\xff", 60) + "\x00\x00\x00\x00":   {Kind: api.Iri, S: strings.Repeat("\xff", 60)},
		"\x03\x02\x00\x00\x00\x00\x00\x03\x00a\x7fb":                       {Kind: api.Literal, S: "\x00\x00", Type: "a\x7fb"},
		"\x02\x14\x00" + strings.Repeat("Z", 20) + "\x00\x00" + "\x00\x00": {Kind: api.Blank, S: strings.Repeat("Z", 20)},
	} {
		if got := string(term.Bytes(y)); got != want {
			t.Errorf("P602: %s: %q, not %q", show(y), got, want)
		}
		if got, e := term.Parse([]byte(want)); got != y || e != api.OK {
			t.Errorf("P602: %q: %s, %v", want, show(got), e)
		}
	}
}

// parses tells a fault where Parse answers another error, or more than a zero term beside it.
func parses(t *testing.T, b string, want api.Errno) {
	t.Helper()
	got, e := term.Parse([]byte(b))
	if e != want || got != (api.Term{}) {
		t.Errorf("P602: %q: %s, %v, not %v", clip(b), show(got), e, want)
	}
}

// TestParseCut: each term's bytes, cut off anywhere, or with more behind.
func TestParseCut(t *testing.T) {
	for _, y := range named() {
		b := string(term.Bytes(y))
		for n := range len(b) {
			parses(t, b[:n], api.ErrCut)
		}
		for _, more := range []string{"\x00", "x", b} {
			parses(t, b+more, api.ErrMore)
		}
	}
	parses(t, "\x01\x02\x00a\x00\x00\x00\x00", api.ErrCut) // the first length takes what belongs to the second
	parses(t, "\x01\x01\x00a\xff\xff\x00\x00", api.ErrCut)
	parses(t, "\x01\x01\x00a\x00\x00\x01\x00", api.ErrCut)
	parses(t, "\x01\x01\x00a\x00\x00\x00\x01", api.ErrCut)
	parses(t, "\x01\x00\x00a\x00\x00\x00\x00\x00", api.ErrCut)
}

// wrong are terms that may not be, and Check's error of each.
func wrong() map[api.Term]api.Errno {
	return map[api.Term]api.Errno{
		{}: api.ErrKind, {Kind: api.Var, S: "a"}: api.ErrKind, {Kind: 255, S: x(61)}: api.ErrKind,
		{Kind: api.Iri, S: x(61)}: api.ErrLong, {Kind: api.Literal, Type: x(61)}: api.ErrLong, {Kind: api.Blank, S: "a", Lang: x(9)}: api.ErrLong, {Kind: api.Literal, S: x(65535)}: api.ErrLong,
		{Kind: api.Iri}: api.ErrArg, {Kind: api.Iri, S: "a b"}: api.ErrArg, {Kind: api.Iri, S: "a", Lang: "en"}: api.ErrArg, {Kind: api.Blank}: api.ErrArg, {Kind: api.Blank, S: "-"}: api.ErrArg, {Kind: api.Blank, S: "a", Type: "b"}: api.ErrArg,
		{Kind: api.Literal, Lang: "en", Type: "a"}: api.ErrArg, {Kind: api.Literal, Lang: "-"}: api.ErrArg, {Kind: api.Literal, Type: ">"}: api.ErrArg,
	}
}

// TestParseWrong: code's errors go ahead of Check's.
func TestParseWrong(t *testing.T) {
	for y, want := range wrong() {
		checks(t, y, want)
		b := string(term.Bytes(y))
		parses(t, b, want)
		parses(t, b+"x", api.ErrMore)
		parses(t, b[:len(b)-1], api.ErrCut)
		parses(t, b[:1], api.ErrCut)
	}
	for k := 4; k < 256; k++ {
		parses(t, string([]byte{byte(k)})+"\x01\x00a\x00\x00\x00\x00", api.ErrKind)
	}
	for _, b := range [][]byte{nil, {}} {
		got, e := term.Parse(b)
		if got != (api.Term{}) || e != api.ErrCut {
			t.Errorf("P602: of nothing: %s, %v", show(got), e)
		}
	}
}

// P2: what is handed in, its spare room too, stays as it is, is not read behind its end, and is not kept; an answer is nobody else's.
func TestOwnMemory(t *testing.T) {
	for _, y := range named() {
		whole := term.Bytes(y)
		room := append(slices.Clone(whole), "spare"...)
		before := string(room)
		got, e := term.Parse(room[:len(whole)])
		if got != y || e != api.OK || string(room) != before {
			t.Errorf("P2: %s, %v; %q", show(got), e, room)
		}
		clear(room)
		if got != y {
			t.Errorf("P2: what was handed in is kept: %s", show(got))
		}
		full := whole[:cap(whole)]
		for i := range full {
			full[i] = 9
		}
		if again := term.Bytes(y); string(again) != before[:len(before)-5] {
			t.Errorf("P2: an answer is shared: %q", again)
		}
	}
}

// P603

// row is in order, each one ahead of the next.
var row = []api.Term{
	{Kind: api.Blank}, {Kind: api.Blank, Type: "a"}, {Kind: api.Blank, Lang: "z"}, {Kind: api.Blank, S: "A"}, {Kind: api.Blank, S: "_"}, {Kind: api.Blank, S: "a"}, {Kind: api.Blank, S: "aa"}, {Kind: api.Blank, S: "b"},
	{Kind: api.Iri}, {Kind: api.Iri, S: "A"}, {Kind: api.Iri, S: "a"}, {Kind: api.Iri, S: "a", Lang: "b"}, {Kind: api.Iri, S: "a/"}, {Kind: api.Iri, S: "\x7f"}, {Kind: api.Iri, S: "\x80"}, {Kind: api.Iri, S: "é"}, {Kind: api.Iri, S: "\xff"},
	{Kind: api.Literal}, {Kind: api.Literal, Type: "\x00"}, {Kind: api.Literal, Type: "a"}, {Kind: api.Literal, Type: "ab"}, {Kind: api.Literal, Type: "b"}, {Kind: api.Literal, Lang: "d"}, {Kind: api.Literal, Lang: "d", Type: "a"}, {Kind: api.Literal, Lang: "de"}, {Kind: api.Literal, Lang: "en"},
	{Kind: api.Literal, S: "\x00"}, {Kind: api.Literal, S: "\x00\x00"}, {Kind: api.Literal, S: "10"}, {Kind: api.Literal, S: "9"}, {Kind: api.Literal, S: "9", Type: api.XDec}, {Kind: api.Literal, S: "9", Type: api.XInt}, {Kind: api.Literal, S: "9", Lang: "a"}, {Kind: api.Literal, S: "9\x00"}, {Kind: api.Literal, S: x(70000)}, {Kind: api.Literal, S: x(70001)}, {Kind: api.Literal, S: "\xff"}, {Kind: api.Literal, S: "\xff\xff"},
	{Kind: math.MinInt}, {Kind: math.MinInt, S: "a"}, {Kind: -1 << 32}, {Kind: -2, S: "z"}, {Kind: -1}, {Kind: -1, Type: "a"}, {Kind: -1, Lang: "a"}, {Kind: -1, S: "a"}, {Kind: 0}, {Kind: 0, S: "z"}, {Kind: api.Var}, {Kind: api.Var, S: "a"}, {Kind: 5}, {Kind: 257, S: "a"}, {Kind: 258}, {Kind: 1<<32 + 1}, {Kind: math.MaxInt}, {Kind: math.MaxInt, Lang: "a"},
}

// sign is the order of two numbers.
func sign(i, k int) int {
	switch {
	case i < k:
		return -1
	case i > k:
		return 1
	}
	return 0
}

func TestCompare(t *testing.T) {
	for i, a := range row {
		for k, b := range row {
			if got := term.Compare(a, b); got != sign(i, k) {
				t.Errorf("P603: %s, %s: %d, not %d", show(a), show(b), got, sign(i, k))
			}
		}
	}
}

// TestCompareParts: terms that differ in one part alone, one of them the front of the other, or not.
func TestCompareParts(t *testing.T) {
	for _, k := range append(slices.Clone(kinds), -1, 0, api.Var, math.MaxInt) {
		for _, p := range [][2]string{{"", "a"}, {"a", "ab"}, {"ab", "b"}, {"a", "\xff"}, {"Z", "a"}, {"a\x00", "aa"}, {"-", "a"}, {x(60), x(61)}} {
			for _, y := range [][2]api.Term{
				{{Kind: k, S: p[0]}, {Kind: k, S: p[1]}}, {{Kind: k, Lang: p[0]}, {Kind: k, Lang: p[1]}}, {{Kind: k, Type: p[0]}, {Kind: k, Type: p[1]}},
				{{Kind: k, S: p[0], Lang: "z", Type: "z"}, {Kind: k, S: p[1]}}, {{Kind: k, Lang: p[0], Type: "z"}, {Kind: k, Lang: p[1]}},
			} {
				a, b := y[0], y[1]
				if term.Compare(a, b) != -1 || term.Compare(b, a) != 1 || term.Compare(a, a) != 0 || term.Compare(b, b) != 0 {
					t.Errorf("P603: %s, %s: %d, %d", show(a), show(b), term.Compare(a, b), term.Compare(b, a))
				}
			}
		}
	}
}

// before is Compare, part by part.
func before(a, b api.Term) int {
	for _, k := range []int{api.Blank, api.Iri, api.Literal} {
		if (a.Kind == k) != (b.Kind == k) {
			if a.Kind == k {
				return -1
			}
			return 1
		}
	}
	if a.Kind != b.Kind {
		return sign(a.Kind, b.Kind)
	}
	for _, p := range [][2]string{{a.S, b.S}, {a.Lang, b.Lang}, {a.Type, b.Type}} {
		if n := bytes.Compare([]byte(p[0]), []byte(p[1])); n != 0 {
			return n
		}
	}
	return 0
}

func TestFits(t *testing.T) {
	i, b, l := api.Term{Kind: api.Iri, S: "a"}, api.Term{Kind: api.Blank, S: "b"}, api.Term{Kind: api.Literal, S: "c", Lang: "en"}
	for _, s := range []api.Term{i, b, l} {
		for _, p := range []api.Term{i, b, l} {
			for _, o := range []api.Term{i, b, l} {
				want := api.OK
				if s == l || p != i {
					want = api.ErrKind
				}
				is(t, "P603: "+show(s)+", "+show(p)+", "+show(o), term.Fits(api.Triple{s, p, o}), want)
			}
		}
	}
}

// TestFitsWrong: a term that may not be, at each place, goes ahead of where terms stand; of several the first one.
func TestFitsWrong(t *testing.T) {
	i, b, l := api.Term{Kind: api.Iri, S: "a"}, api.Term{Kind: api.Blank, S: "b"}, api.Term{Kind: api.Literal}
	for y, want := range wrong() {
		for _, z := range []api.Triple{{i, i, i}, {b, i, l}, {l, l, l}, {b, b, b}, {l, b, i}} {
			for at := range 3 {
				x := z
				x[at] = y
				is(t, "P603: "+show(y)+" at "+strconv.Itoa(at), term.Fits(x), want)
				for k := at + 1; k < 3; k++ {
					for other := range wrong() {
						x[k] = other
						is(t, "P603: "+show(y)+" ahead of "+show(other), term.Fits(x), want)
					}
					x[k] = z[k]
				}
			}
		}
	}
	is(t, "P603: of nothing", term.Fits(api.Triple{}), api.ErrKind)
}

// P604

// TestBack goes through terms of all kinds, many of them: what was written is read as the same, and no two have one text, or the same bytes.
func TestBack(t *testing.T) {
	texts, written := map[string]api.Term{}, map[string]api.Term{}
	put := func(y api.Term) {
		if term.Check(y) != api.OK {
			return
		}
		b := term.Bytes(y)
		if got, e := term.Parse(b); got != y || e != api.OK {
			t.Fatalf("P604: %s: %s, %v", show(y), show(got), e)
		}
		if z, there := texts[term.Text(y)]; there && z != y {
			t.Fatalf("P604: %s and %s: %s", show(y), show(z), term.Text(y))
		}
		if z, there := written[string(b)]; there && z != y {
			t.Fatalf("P604: %s and %s: %q", show(y), show(z), b)
		}
		texts[term.Text(y)], written[string(b)] = y, y
	}
	for _, s := range rows("\"\\tnr\t\n\r@^<>ab_:-", 3) {
		for _, k := range kinds {
			put(api.Term{Kind: k, S: s})
		}
		for _, l := range []string{"a", "b", "a-", "t", "ab"} {
			put(api.Term{Kind: api.Literal, S: s, Lang: l})
			put(api.Term{Kind: api.Literal, S: s, Type: l})
		}
	}
	for _, s := range rows("ab-:@_", 3) {
		put(api.Term{Kind: api.Literal, S: "a", Lang: s})
		put(api.Term{Kind: api.Literal, S: "a", Type: s})
	}
	if len(texts) < 50000 {
		t.Errorf("%d terms only", len(texts))
	}
}

// rows are all texts of these letters of at most so many.
func rows(letters string, most int) []string {
	l := []string{""}
	for from := 0; most > 0; most-- {
		to := len(l)
		for _, s := range l[from:to] {
			for i := range len(letters) {
				l = append(l, s+letters[i:i+1])
			}
		}
		from = to
	}
	return l
}

// TestThrown holds what all calls answer, of terms that may be and ones that may not, against the chapter's own words.
func TestThrown(t *testing.T) {
	d := die(6)
	had := map[api.Errno]int{}
	for range 200000 {
		a, b := d.any(), d.any()
		if d.of(4) == 0 {
			b.S = a.S
		}
		if d.of(4) == 0 {
			b.Kind, b.S = a.Kind, a.S
		}
		hold(t, a, b, d.good())
		had[check(a)]++
	}
	for _, e := range []api.Errno{api.OK, api.ErrKind, api.ErrLong, api.ErrArg} {
		if had[e] < 1000 {
			t.Errorf("%v was thrown %d times only", e, had[e])
		}
	}
}

// hold tells a fault of any two terms, and of one that may be.
func hold(t *testing.T, a, b, good api.Term) {
	t.Helper()
	checks(t, a, check(a))
	checks(t, good, api.OK)
	if got, want := term.Compare(a, b), before(a, b); got != want || term.Compare(b, a) != -want {
		t.Fatalf("P603: %s, %s: %d, not %d", show(a), show(b), got, want)
	}
	want := check(a)
	if want == api.OK {
		want = check(b)
	}
	if want == api.OK && (a.Kind == api.Literal || b.Kind != api.Iri) {
		want = api.ErrKind
	}
	is(t, "P603: "+show(a)+", "+show(b), term.Fits(api.Triple{a, b, good}), want)
	for _, y := range []api.Term{a, b, good} {
		got, e := term.Parse(term.Bytes(y))
		if y.Kind >= 0 && y.Kind < 256 && len(y.S+y.Lang+y.Type) < 65536 && (e != check(y) || e == api.OK && got != y) {
			t.Fatalf("P604: %s: %s, %v", show(y), show(got), e)
		}
	}
	if (term.Text(a) == term.Text(b)) != (a == b) && check(a) == api.OK && check(b) == api.OK {
		t.Fatalf("P604: %s, %s", show(a), show(b))
	}
}

// P1, P3: whatever comes, all ends, and the same way twice. What Parse reads is written as it stood.

func FuzzTerms(f *testing.F) {
	f.Add(api.Iri, "a", "", "", api.Blank, "b", "", "")
	f.Add(api.Literal, "a", "en", "", api.Literal, "a", "", "b")
	f.Add(api.Literal, "\"\\\n", "-", " ", -1, x(61), x(9), x(61))
	f.Add(math.MinInt, "", "", "", math.MaxInt, "", "", "")
	f.Fuzz(func(t *testing.T, k int, s, l, y string, k2 int, s2, l2, y2 string) {
		a, b := api.Term{Kind: k, S: s, Lang: l, Type: y}, api.Term{Kind: k2, S: s2, Lang: l2, Type: y2}
		good := api.Term{Kind: api.Literal, S: "a"}
		if check(a) == api.OK {
			good = a
		}
		hold(t, a, b, good)
		if term.Text(a) != term.Text(a) || !bytes.Equal(term.Bytes(a), term.Bytes(a)) {
			t.Errorf("P3: %s", show(a))
		}
	})
}

func FuzzParse(f *testing.F) {
	for _, y := range named() {
		f.Add(term.Bytes(y))
	}
	for y := range wrong() {
		f.Add(term.Bytes(y))
	}
	f.Fuzz(func(t *testing.T, b []byte) {
		before := slices.Clone(b)
		got, e := term.Parse(b)
		again, e2 := term.Parse(b)
		if got != again || e != e2 || !bytes.Equal(b, before) {
			t.Fatalf("P2, P3: %q", b)
		}
		if e == api.OK && (check(got) != api.OK || !bytes.Equal(term.Bytes(got), b)) || e != api.OK && got != (api.Term{}) {
			t.Errorf("P602: %q: %s, %v", b, show(got), e)
		}
	})
}
