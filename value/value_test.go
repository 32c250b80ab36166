package value_test

import (
	"strings"
	"testing"

	"triad/api"
	"triad/value"
)

func noughts(n int) string { return strings.Repeat("0", n) }

// other is a type that is none of api's.
const other = "http://www.w3.org/2001/XMLSchema#int"

// numerals are texts of numbers that have no '.', and of some that have one.
func numerals() (wholes, parts []string) {
	return []string{"0", "+0", "-0", "1", "+1", "-1", "7", "007", "-007", "10", "100", "42", "999999999999999", "-999999999999999", "+000999999999999999", noughts(70) + "5"},
		[]string{"0.0", "-0.0", "+0.00", "0.1", "-0.1", "1.0", "1.00", "001.0", "-1.0", "1.5", "1.50", "-1.50", "+1.5", "0.000001", "-0.000001", "1.0000000", "10.0", "100.00", "999999999.999999", "-999999999.999999", "99999999999999.9", "999999999999999.0", "0.1000000", "1." + noughts(70)}
}

// strays are texts of none.
func strays() []string {
	return []string{"", "+", "-", ".", "x", "1x", "x1", " 1", "1 ", "1\n", "--1", "+-1", "1-", "1.", ".1", "1..1", "1.1.1", "1,5", "1e3", "0x1", "1_000", "NaN", "Inf", "true", "1.x", "\u0661", "1\x00",
		"1000000000000000", "-1000000000000000", "9999999999999999", "0.0000001", "1.0000001", "1234567890.123456", "999999999999999.1", "1000000000000000.0", "00001000000000000000"}
}

// P1501: numbers

// TestNumbers: which literals are numbers is to be seen by what may be reckoned, and ordered with a number.
func TestNumbers(t *testing.T) {
	wholes, parts := numerals()
	for _, s := range wholes {
		tried(t, whole(s), true)
		tried(t, part(s), true) // without a '.', of the type of those that have one
	}
	for _, s := range parts {
		tried(t, whole(s), false) // with one, of the type of those that have none
		tried(t, part(s), true)
	}
	for _, s := range strays() {
		tried(t, whole(s), false)
		tried(t, part(s), false)
	}
	for _, s := range append(append(wholes, parts...), strays()...) {
		for _, x := range []api.Term{text(s), spoken(s, "en"), typed(s, other), typed(s, aText), typed(s, api.XInt+"s"), typed(s, strings.ToLower(api.XInt[:20])), typed(s, api.XBool), ref(s), node(s)} {
			tried(t, x, false)
		}
	}
}

// tried tells faults where a term is taken for a number and is none, or the other way about.
func tried(t *testing.T, x api.Term, should bool) {
	t.Helper()
	if (number(x) != nil) != should {
		fault(t, "%s: the words say %v", clip(x), !should)
	}
	five := whole("5")
	if _, ok := value.Less(x, five); ok != should {
		fault(t, "P1501: Less of %s and 5: %v", clip(x), ok)
	}
	if _, ok := value.Less(five, x); ok != should {
		fault(t, "P1501: Less of 5 and %s: %v", clip(x), ok)
	}
	if _, ok := value.Equal(x, five); ok != (should || !literal(x)) {
		fault(t, "P1501: Equal of %s and 5: %v", clip(x), ok)
	}
	want := api.Term{}
	if should {
		want = reckoned(api.EMul, x, whole("1"))
	}
	means(t, opOf(api.EMul, x, whole("1")), nil, want)
	means(t, opOf(api.ENeg, x), nil, one(api.ENeg, x))
	if !should {
		fails(t, nil, opOf(api.EAdd, x, five), opOf(api.EAdd, five, x), opOf(api.ESub, x, five), opOf(api.ESub, five, x), opOf(api.EMul, five, x), opOf(api.ENeg, x))
	}
}

// P1501: Truth

func TestTruth(t *testing.T) {
	truths(t, truth(true), yes)
	truths(t, truth(false), no)
	for _, s := range []string{"", "True", "TRUE", "False", "FALSE", "1", "0", "t", "f", "tru", "true ", " true", "truefalse", "yes", "falsE"} {
		truths(t, typed(s, api.XBool), neither)
	}
	for _, s := range []string{"true", "false"} {
		truths(t, text(s), yes) // not empty
		truths(t, spoken(s, "en"), neither)
		truths(t, ref(s), neither)
		truths(t, node(s), neither)
		for _, y := range []string{api.XInt, api.XDec, aText, other, "b", api.XBool + "s"} {
			truths(t, typed(s, y), neither)
		}
	}
	for _, s := range []string{"0", "+0", "-0", "00", noughts(400)} {
		truths(t, whole(s), no)
		truths(t, part(s), no)
		truths(t, part(s+".0"), no)
		truths(t, part(s+".00000000"), no)
		truths(t, whole(s+".0"), neither)
	}
	truths(t, part("-0.0"), no)
	for _, s := range []string{"1", "-1", "+1", "10", "0001", "999999999999999", "-999999999999999"} {
		truths(t, whole(s), yes)
		truths(t, part(s), yes)
		truths(t, part(s+".0"), yes)
		truths(t, whole(s+".0"), neither)
	}
	for _, s := range []string{"0.1", "-0.1", "0.000001", "-0.000001", "0.0000010"} {
		truths(t, part(s), yes)
		truths(t, whole(s), neither)
	}
	for _, s := range strays() {
		truths(t, whole(s), neither)
		truths(t, part(s), neither)
	}
	truths(t, text(""), no)
	for _, s := range []string{"0", "x", " ", "\x00", "false", "\xff", "0.0", noughts(60)} {
		truths(t, text(s), yes)
		truths(t, spoken(s, "en"), neither)
		truths(t, typed(s, "t"), neither)
		truths(t, ref(s), neither)
		truths(t, node(s), neither)
	}
	truths(t, spoken("", "en"), neither)
	truths(t, typed("", aText), neither)
	truths(t, typed("", aTongue), neither)
	truths(t, typed("", "t"), neither)
	for _, kind := range []int{0, -1, api.Var, 5, 1 << 40} {
		for _, x := range []api.Term{{}, {S: "true", Type: api.XBool}, {S: "1", Type: api.XInt}, {S: "x"}} {
			x.Kind = kind
			truths(t, x, neither)
		}
	}
}

// P1501: Equal, Less

// TestNumbersCompared: by what they are, whichever digits and type they have.
func TestNumbersCompared(t *testing.T) {
	alike(t, whole("1"), part("1.0")) // the chapter's example
	for _, l := range [][]api.Term{
		{whole("1"), whole("+1"), whole("01"), part("1"), part("1.0"), part("+1.000"), part("001.0000000")},
		{whole("0"), whole("-0"), whole("+000"), part("0"), part("0.0"), part("-0.0"), part("-0")},
		{whole("-15"), part("-15"), part("-15.0"), part("-015.00")},
		{part("1.5"), part("1.50"), part("+01.5")},
		{whole("999999999999999"), part("999999999999999.0"), part("+999999999999999")},
		{part("0.000001"), part("0.0000010"), part("00.000001")},
	} {
		for _, a := range l {
			for _, b := range l {
				alike(t, a, b)
			}
		}
	}
	l := []api.Term{whole("-999999999999999"), part("-999999999999998.0"), part("-999999999.999999"), whole("-100"), part("-20.5"), whole("-20"), part("-2.000001"), whole("-2"), part("-0.5"), part("-0.000001"),
		whole("0"), part("0.000001"), part("0.1"), part("0.2"), part("0.25"), whole("1"), part("1.000001"), part("1.5"), whole("2"), part("9.9"), whole("10"), part("10.01"), whole("9999999"), part("999999999.999998"), part("999999999.999999"), whole("1000000000"), part("99999999999999.9"), whole("999999999999999")}
	for i, a := range l {
		for _, b := range l[i+1:] {
			rising(t, a, b)
		}
	}
}

// TestTextsCompared: plain ones, by bytes.
func TestTextsCompared(t *testing.T) {
	l := []string{"", "\x00", "\x00\x00", "\n", " ", "10", "2", "A", "B", "Z", "a", "aB", "aa", "ab", "b", "true", "z", "\x7f", "\u00e9", "\u4e00", "\U0001f600", "\xff"}
	for i, a := range l {
		alike(t, text(a), text(a))
		for _, b := range l[i+1:] {
			rising(t, text(a), text(b))
			apart(t, spoken(a, "en"), spoken(b, "en")) // equal or not, but in no order
			odd(t, typed(a, "t"), typed(b, "t"))
			odd(t, typed(a, aText), typed(b, aText))
		}
		same(t, spoken(a, "en"))
		same(t, typed(a, "t"))
		same(t, typed(a, aText))
		apart(t, spoken(a, "en"), spoken(a, "de"))
		apart(t, spoken(a, "en"), spoken(a, "e"))
		odd(t, text(a), spoken(a, "en"))
		odd(t, text(a), typed(a, "t"))
		odd(t, text(a), typed(a, aText))
		odd(t, spoken(a, "en"), typed(a, aTongue))
		odd(t, spoken(a, "en"), typed(a, "en"))
		odd(t, typed(a, "t"), typed(a, "u"))
	}
}

// TestTruthsCompared: false ahead of true, and no others.
func TestTruthsCompared(t *testing.T) {
	alike(t, truth(true), truth(true))
	alike(t, truth(false), truth(false))
	rising(t, truth(false), truth(true))
	for _, is := range []bool{true, false} {
		for _, s := range []string{"", "TRUE", "False", "0", "1", "a", "z"} {
			odd(t, truth(is), typed(s, api.XBool))
		}
		s := truth(is).S
		for _, x := range []api.Term{text(s), spoken(s, "en"), typed(s, api.XInt), typed(s, aText), whole("0"), whole("1"), part("1.0"), text("")} {
			odd(t, truth(is), x)
		}
	}
	same(t, typed("TRUE", api.XBool))
	same(t, typed("1", api.XBool))
	odd(t, typed("0", api.XBool), typed("1", api.XBool))
	odd(t, typed("FALSE", api.XBool), typed("TRUE", api.XBool))
}

// TestNodesCompared: of an IRI or a blank and whatever it is, whether all is the same.
func TestNodesCompared(t *testing.T) {
	literals := []api.Term{text("a"), text(""), spoken("a", "en"), typed("a", "t"), whole("1"), part("1.5"), truth(true), whole("x"), typed("a", api.XBool)}
	for _, a := range []string{"a", "b", "1", "true", "http://a/b"} {
		same(t, ref(a))
		same(t, node(a))
		apart(t, ref(a), node(a))
		apart(t, ref(a), ref(a+"c"))
		apart(t, ref(a), ref(strings.ToUpper(a)+"c"))
		apart(t, node(a), node("c"))
		for _, b := range append(literals, text(a)) {
			apart(t, ref(a), b)
			apart(t, node(a), b)
		}
	}
}

// TestStrange: literals that are of no kind, each the same as itself alone.
func TestStrange(t *testing.T) {
	l := []api.Term{typed("a", "t"), typed("b", "t"), typed("a", "u"), typed("1", "t"), typed("1", other), whole("x"), whole("1.0"), whole("2.0"), whole("1000000000000000"), part("1000000000000000"), part("x"), part("0.0000001"), typed("TRUE", api.XBool), typed("a", aText), typed("b", aText), typed("a", aTongue), typed("", "t")}
	for i, a := range l {
		same(t, a)
		for _, b := range l[i+1:] {
			odd(t, a, b)
		}
		for _, b := range []api.Term{whole("1"), part("1.0"), part("1"), text("a"), text("1"), text(""), spoken("a", "en"), truth(true), truth(false)} {
			odd(t, a, b)
		}
	}
	odd(t, whole("1"), text("1"))
	odd(t, whole("1"), spoken("1", "en"))
	odd(t, part("1.0"), text("1.0"))
	odd(t, text(""), whole("0"))
}

// row are terms of all kinds.
func row() []api.Term {
	l := []api.Term{text(""), text("a"), text("b"), text("ab"), text("true"), text("1"), text("1.0"), text("-5"), text("\xff\x00"), spoken("a", "en"), spoken("a", "de"), spoken("", "en"), spoken("1", "en"), typed("a", "t"), typed("a", "u"), typed("", "t"), typed("1", other), typed("a", aText), typed("a", aTongue),
		truth(true), truth(false), typed("TRUE", api.XBool), typed("1", api.XBool), typed("", api.XBool), ref("a"), ref("b"), ref("1"), ref("a:b"), ref(api.XInt), node("a"), node("b"), node("1"), node("true")}
	wholes, parts := numerals()
	for _, s := range append(append(wholes, parts...), strays()...) {
		l = append(l, whole(s), part(s))
	}
	return l
}

// TestAllPairs goes through all pairs of these, by the words.
func TestAllPairs(t *testing.T) {
	t.Parallel()
	l := row()
	for _, a := range l {
		truths(t, a, truthOf(a))
		for _, n := range ones {
			holds(t, opOf(n, a), nil)
		}
		for _, b := range l {
			between(t, "Equal", value.Equal, a, b, equal(a, b))
			between(t, "Less", value.Less, a, b, less(a, b))
			for _, n := range twos {
				holds(t, opOf(n, a, b), nil)
			}
		}
	}
}
