package value_test

import (
	"strconv"
	"strings"
	"testing"

	"triad/api"
	"triad/value"
)

// some is a solution.
func some() api.Sol {
	return api.Sol{{Name: "a", T: whole("5")}, {Name: "b", T: ref("x:y")}, {Name: "c", T: node("q")}, {Name: "d", T: spoken("hi", "en")}, {Name: "no", T: truth(false)}, {Name: "yes", T: truth(true)}, {Name: "z_9", T: text("")}}
}

// TestTerms: ETerm.
func TestTerms(t *testing.T) {
	for _, x := range row() {
		means(t, of(x), nil, x)
		means(t, of(x), some(), x)
		means(t, vari("v"), api.Sol{{Name: "v", T: x}}, x)
	}
	for _, p := range some() {
		means(t, vari(p.Name), some(), p.T)
		fails(t, nil, vari(p.Name))
		fails(t, api.Sol{}, vari(p.Name))
		fails(t, some(), vari(p.Name+"x"), vari(strings.ToUpper(p.Name)), vari("x"+p.Name))
		for _, x := range []api.Term{ref(p.Name), text(p.Name), node(p.Name)} { // of a variable's name, but none
			means(t, of(x), some(), x)
		}
	}
	fails(t, some(), vari(""), vari("e"), vari("z_"), vari("A"), vari("A\x00"))
	for _, l := range [][]api.Expr{{of(text("x"))}, {vari("a")}, {vari("a"), vari("b")}, {none()}, {op(0)}} { // Kids
		fails(t, some(), api.Expr{Op: api.ETerm, T: text("x"), Kids: l}, api.Expr{Op: api.ETerm, T: vari("a").T, Kids: l})
	}
	means(t, api.Expr{Op: api.ETerm, T: text("x"), Kids: []api.Expr{}}, nil, text("x"))
}

// TestLogic: each of what is true, what is false, and what is neither, on either side.
func TestLogic(t *testing.T) {
	trues := []api.Expr{of(truth(true)), vari("yes"), of(text("x")), of(whole("5")), of(part("-0.1")), opOf(api.EEq, whole("1"), part("1.0"))}
	falses := []api.Expr{of(truth(false)), vari("no"), of(text("")), of(whole("0")), of(part("-0.0")), op(api.ENot, vari("yes"))}
	errors := []api.Expr{none(), of(ref("a")), of(node("a")), of(spoken("x", "en")), of(spoken("", "en")), of(typed("x", "t")), of(typed("TRUE", api.XBool)), of(whole("1.5")), op(0), opOf(api.EAdd, text("a"), text("b")), op(api.ENot, none())}
	kinds := [3][]api.Expr{no: falses, yes: trues, neither: errors}
	or := [3][3]int{no: {no, yes, neither}, yes: {yes, yes, yes}, neither: {neither, yes, neither}}
	and := [3][3]int{no: {no, no, no}, yes: {no, yes, neither}, neither: {no, neither, neither}}
	for i, l := range kinds {
		for k, m := range kinds {
			for _, a := range l {
				for _, b := range m {
					means(t, op(api.EOr, a, b), some(), answer(or[i][k]))
					means(t, op(api.EAnd, a, b), some(), answer(and[i][k]))
				}
			}
		}
		for _, a := range l {
			means(t, op(api.ENot, a), some(), answer([]int{no: yes, yes: no, neither: neither}[i]))
			means(t, op(api.ENot, op(api.ENot, a)), some(), answer(i))
		}
	}
}

// TestComparedErrors (P1503): a Kid's error is one of the whole, on either side.
func TestComparedErrors(t *testing.T) {
	for _, n := range twos {
		for _, x := range row() {
			if n == api.EOr || n == api.EAnd {
				continue
			}
			for _, bad := range []api.Expr{none(), op(0), op(api.ECoal), opOf(api.ENeg, text("1")), op(api.EEq, none(), none()), op(api.EOr, none(), none()), {Op: api.EBound}} {
				fails(t, some(), op(n, of(x), bad), op(n, bad, of(x)), op(n, bad, bad))
			}
		}
	}
	for _, n := range ones {
		fails(t, some(), op(n, op(0)), op(n, opOf(api.ENeg, text("1"))), op(n, op(n)), op(n, op(api.ECoal, none(), none())), op(n, op(api.EIf, none(), vari("a"), vari("a"))))
		if n != api.EBound {
			fails(t, some(), op(n, none()))
		}
	}
}

// TestReckoned: sums, differences, products, the other sign.
func TestReckoned(t *testing.T) {
	for _, x := range []struct {
		op      int
		a, b, z api.Term
	}{
		{api.EAdd, whole("5"), whole("2"), whole("7")},
		{api.EAdd, whole("5"), part("2"), part("7")},
		{api.EAdd, part("5"), whole("2"), part("7")},
		{api.EAdd, part("5"), part("2"), part("7")},
		{api.EAdd, part("0.5"), part("0.50"), part("1")},
		{api.EAdd, part("1.5"), part("0.75"), part("2.25")},
		{api.EAdd, part("0.1"), part("0.2"), part("0.3")},
		{api.EAdd, whole("007"), whole("+1"), whole("8")},
		{api.EAdd, whole("1"), whole("-1"), whole("0")},
		{api.EAdd, part("-0.5"), part("0.5"), part("0")},
		{api.EAdd, whole("-0"), whole("-0"), whole("0")},
		{api.EAdd, whole("999999999999998"), whole("1"), whole("999999999999999")},
		{api.EAdd, whole("999999999999999"), whole("1"), api.Term{}},
		{api.EAdd, whole("999999999999999"), whole("-1"), whole("999999999999998")},
		{api.EAdd, part("999999999.999999"), part("0.000001"), part("1000000000")},
		{api.EAdd, whole("1000000000"), part("0.000001"), api.Term{}},
		{api.EAdd, part("-999999999999999.0"), part("-1.0"), api.Term{}},
		{api.ESub, whole("5"), whole("7"), whole("-2")},
		{api.ESub, whole("7"), whole("5"), whole("2")},
		{api.ESub, whole("5"), part("0.5"), part("4.5")},
		{api.ESub, part("0.5"), whole("5"), part("-4.5")},
		{api.ESub, part("5.5"), part("0.5"), part("5")},
		{api.ESub, whole("5"), whole("-5"), whole("10")},
		{api.ESub, whole("-5"), whole("-5"), whole("0")},
		{api.ESub, whole("0"), whole("999999999999999"), whole("-999999999999999")},
		{api.ESub, whole("-1"), whole("999999999999999"), api.Term{}},
		{api.EMul, whole("5"), whole("7"), whole("35")},
		{api.EMul, whole("-5"), whole("7"), whole("-35")},
		{api.EMul, whole("5"), part("1.2"), part("6")},
		{api.EMul, part("1.2"), whole("5"), part("6")},
		{api.EMul, part("0.5"), part("0.5"), part("0.25")},
		{api.EMul, part("-0.5"), part("-0.5"), part("0.25")},
		{api.EMul, part("0.001"), part("0.001"), part("0.000001")},
		{api.EMul, part("0.001"), part("0.0001"), api.Term{}},
		{api.EMul, whole("0"), part("-0.5"), part("0")},
		{api.EMul, whole("0"), whole("-5"), whole("0")},
		{api.EMul, whole("999999999999999"), whole("1"), whole("999999999999999")},
		{api.EMul, whole("999999999999999"), whole("2"), api.Term{}},
		{api.EMul, whole("33333333"), whole("30000000"), whole("999999990000000")},
		{api.EMul, whole("100000000"), whole("10000000"), api.Term{}},
		{api.EMul, part("0.00001"), whole("100000"), part("1")},
	} {
		means(t, opOf(x.op, x.a, x.b), nil, x.z)
		means(t, op(x.op, vari("v"), vari("w")), api.Sol{{Name: "v", T: x.a}, {Name: "w", T: x.b}}, x.z)
		if x.op != api.ESub {
			means(t, opOf(x.op, x.b, x.a), nil, x.z)
		}
	}
	for from, to := range map[string]string{"5": "-5", "-5": "5", "+5": "-5", "0": "0", "-0": "0", "007": "-7", "999999999999999": "-999999999999999", "-999999999999999": "999999999999999"} {
		means(t, opOf(api.ENeg, whole(from)), nil, whole(to))
		means(t, opOf(api.ENeg, part(from)), nil, part(to))
		means(t, opOf(api.ENeg, part(from+".0")), nil, part(to))
	}
	means(t, opOf(api.ENeg, part("-0.50")), nil, part("0.5"))
	means(t, opOf(api.ENeg, part("0.000001")), nil, part("-0.000001"))
	fails(t, nil, opOf(api.ENeg, whole("0.5")), opOf(api.ENeg, text("5")), opOf(api.ENeg, truth(true)), opOf(api.ENeg, ref("a")), opOf(api.ENeg, node("a")), opOf(api.ENeg, spoken("5", "en")), opOf(api.ENeg, typed("5", "t")), opOf(api.ENeg, whole("1000000000000000")))
}

// TestBound: of a variable alone, which is not told.
func TestBound(t *testing.T) {
	for _, p := range some() {
		means(t, op(api.EBound, vari(p.Name)), some(), truth(true))
		means(t, op(api.EBound, vari(p.Name)), nil, truth(false))
		means(t, op(api.EBound, vari(p.Name+"x")), some(), truth(false))
		fails(t, some(), op(api.EBound, of(ref(p.Name))), op(api.EBound, of(node(p.Name))), op(api.EBound, of(text(p.Name))), op(api.EBound, of(p.T)))
		for n := -1; n < 30; n++ { // another operator, which has it
			fails(t, some(), op(api.EBound, op(n, vari(p.Name))), op(api.EBound, op(n, vari(p.Name), vari(p.Name))))
			if n != api.ETerm {
				fails(t, some(), op(api.EBound, api.Expr{Op: n, T: vari(p.Name).T}))
			}
		}
		fails(t, some(), op(api.EBound, api.Expr{Op: api.ETerm, T: vari(p.Name).T, Kids: []api.Expr{vari(p.Name)}}))
	}
	for _, kind := range []int{0, -1, 5, 1 << 40} {
		fails(t, some(), op(api.EBound, of(api.Term{Kind: kind, S: "a"})))
	}
	means(t, op(api.EBound, api.Expr{Op: api.ETerm, T: vari("a").T, Kids: []api.Expr{}}), some(), truth(true))
}

// TestParts: STR, LANG, DATATYPE, STRLEN.
func TestParts(t *testing.T) {
	for s, n := range map[string]string{"": "0", "x": "1", "a\u00e9": "3", "\u4e00": "3", "\U0001f600": "4", "\xff\xfe": "2", "\x00": "1", "a\nb": "3", "5": "1", "-0.50": "5", "true": "4", strings.Repeat("x", 60): "60"} {
		means(t, opOf(api.EStr, text(s)), nil, text(s))
		means(t, opOf(api.EStr, spoken(s, "en")), nil, text(s))
		means(t, opOf(api.EStr, typed(s, "t")), nil, text(s))
		means(t, opOf(api.EStr, ref(s)), nil, text(s))
		means(t, opOf(api.ELang, text(s)), nil, text(""))
		means(t, opOf(api.ELang, spoken(s, "en")), nil, text("en"))
		means(t, opOf(api.ELang, spoken(s, "a-b-cdef")), nil, text("a-b-cdef"))
		means(t, opOf(api.ELang, typed(s, "t")), nil, text(""))
		means(t, opOf(api.EType, text(s)), nil, ref(aText))
		means(t, opOf(api.EType, spoken(s, "en")), nil, ref(aTongue))
		means(t, opOf(api.EType, typed(s, "t")), nil, ref("t"))
		for _, x := range []api.Term{text(s), spoken(s, "en"), typed(s, "t"), typed(s, aText)} {
			means(t, opOf(api.ELen, x), nil, whole(n))
		}
		for _, y := range []string{api.XInt, api.XDec, api.XBool, aText, other} {
			means(t, opOf(api.EStr, typed(s, y)), nil, text(s))
			means(t, opOf(api.ELang, typed(s, y)), nil, text(""))
			means(t, opOf(api.EType, typed(s, y)), nil, ref(y))
			means(t, opOf(api.ELen, typed(s, y)), nil, whole(n))
		}
	}
	fails(t, nil, opOf(api.EStr, node("a")))
	for _, x := range []api.Term{ref("a"), node("a"), ref("http://a/b")} {
		fails(t, nil, opOf(api.ELang, x), opOf(api.EType, x), opOf(api.ELen, x))
	}
	means(t, op(api.ELen, op(api.EStr, of(ref("x:y")))), nil, whole("3"))
}

// TestContains: EHas.
func TestContains(t *testing.T) {
	for _, x := range []struct {
		a, b string
		has  bool
	}{{"", "", true}, {"x", "", true}, {"x", "x", true}, {"", "x", false}, {"hello", "ell", true}, {"hello", "h", true}, {"hello", "o", true}, {"hello", "hello", true}, {"hello", "hello ", false}, {"hello", "hlo", false}, {"hello", "ELL", false}, {"aab", "ab", true}, {"a\x00b", "\x00", true}, {"\u00e9", "\xc3", true}, {"\xff", "\xff", true}, {"123", "2", true}, {"ab", "ba", false}} {
		for _, a := range []api.Term{text(x.a), spoken(x.a, "en"), typed(x.a, "t"), whole(x.a)} {
			for _, b := range []api.Term{text(x.b), spoken(x.b, "en"), spoken(x.b, "de"), typed(x.b, "u"), part(x.b)} {
				means(t, opOf(api.EHas, a, b), nil, truth(x.has))
			}
			for _, b := range []api.Term{ref(x.b), node(x.b)} {
				fails(t, nil, opOf(api.EHas, a, b), opOf(api.EHas, b, a), opOf(api.EHas, b, b))
			}
		}
	}
	fails(t, nil, opOf(api.EHas, ref("a"), node("a")))
}

// TestKinds: EIsIri, EIsBlank, EIsLit, of any term.
func TestKinds(t *testing.T) {
	for _, x := range row() {
		means(t, opOf(api.EIsIri, x), nil, truth(x.Kind == api.Iri))
		means(t, opOf(api.EIsBlank, x), nil, truth(x.Kind == api.Blank))
		means(t, opOf(api.EIsLit, x), nil, truth(x.Kind == api.Literal))
	}
	for name, want := range map[string]int{"a": api.EIsLit, "b": api.EIsIri, "c": api.EIsBlank, "d": api.EIsLit} {
		for _, n := range []int{api.EIsLit, api.EIsIri, api.EIsBlank} {
			means(t, op(n, vari(name)), some(), truth(n == want))
		}
	}
}

// TestSame: not what is equal, but what is the same.
func TestSame(t *testing.T) {
	means(t, opOf(api.ESame, whole("1"), part("1.0")), nil, truth(false))
	means(t, opOf(api.ESame, whole("1"), part("1")), nil, truth(false))
	means(t, opOf(api.ESame, whole("1"), whole("01")), nil, truth(false))
	means(t, opOf(api.ESame, text("a"), spoken("a", "en")), nil, truth(false))
	means(t, opOf(api.ESame, spoken("a", "de"), spoken("a", "en")), nil, truth(false))
	means(t, opOf(api.ESame, text("a"), ref("a")), nil, truth(false))
	means(t, opOf(api.ESame, ref("a"), node("a")), nil, truth(false))
	means(t, opOf(api.ESame, typed("a", "t"), typed("a", "u")), nil, truth(false))
	for i, a := range row() {
		for k, b := range row() {
			is(t, opOf(api.ESame, a, b), nil, truth(a == b))
			if i == k {
				means(t, opOf(api.ESame, a, b), nil, truth(true))
			}
		}
	}
}

// TestIf: the one that is not looked at may be an error.
func TestIf(t *testing.T) {
	for _, x := range row() {
		for _, bad := range []api.Expr{none(), op(0), opOf(api.ENeg, text("x")), op(api.ECoal)} {
			switch want := truthOf(x); want {
			case yes:
				means(t, op(api.EIf, of(x), vari("a"), bad), some(), whole("5"))
				means(t, op(api.EIf, of(x), vari("a"), vari("b")), some(), whole("5"))
				fails(t, some(), op(api.EIf, of(x), bad, vari("a")))
			case no:
				means(t, op(api.EIf, of(x), bad, vari("b")), some(), ref("x:y"))
				means(t, op(api.EIf, of(x), vari("a"), vari("b")), some(), ref("x:y"))
				fails(t, some(), op(api.EIf, of(x), vari("b"), bad))
			case neither:
				fails(t, some(), op(api.EIf, of(x), vari("a"), vari("b")), op(api.EIf, of(x), bad, bad))
			}
			fails(t, some(), op(api.EIf, bad, vari("a"), vari("b")), op(api.EIf, bad, of(x), of(x)))
			means(t, op(api.EIf, vari("yes"), of(x), bad), some(), x) // as it is, whatever it is
			means(t, op(api.EIf, vari("no"), bad, of(x)), some(), x)
		}
	}
}

// TestCoalesce: the first one that is no error.
func TestCoalesce(t *testing.T) {
	bad := []api.Expr{none(), op(0), opOf(api.ENeg, text("x")), op(api.ECoal), op(api.EIf, of(ref("a")), of(text("x")), of(text("x")))}
	for n := range len(bad) + 1 {
		l := bad[:n]
		fails(t, some(), op(api.ECoal, l...))
		for _, x := range row() {
			e := op(api.ECoal, append(append([]api.Expr{}, l...), of(x))...)
			means(t, e, some(), x)
			e.Kids = append(e.Kids, bad...)
			means(t, e, some(), x)
			e.Kids = append(e.Kids, vari("a"))
			means(t, e, some(), x)
		}
	}
	var l []api.Expr
	for range 1000 {
		l = append(l, none())
	}
	fails(t, some(), op(api.ECoal, l...))
	means(t, op(api.ECoal, append(l, vari("b"))...), some(), ref("x:y"))
}

// TestCounts: each operator, and some that there are not, with none to five Kids.
func TestCounts(t *testing.T) {
	need := map[int][2]int{api.ETerm: {0, 0}, api.EIf: {3, 3}, api.ECoal: {1, 5}}
	for _, n := range ones {
		need[n] = [2]int{1, 1}
	}
	for _, n := range twos {
		need[n] = [2]int{2, 2}
	}
	if len(need) != 26 {
		t.Fatalf("%d operators", len(need))
	}
	kids := []api.Expr{vari("a"), of(whole("1")), vari("a"), vari("yes"), of(text("x"))}
	for n := -40; n < 70; n++ {
		for count := range 6 {
			e := api.Expr{Op: n, T: text("t"), Kids: kids[:count:count]}
			bounds, there := need[n]
			_, ok := value.Eval(e, some())
			if may := there && bounds[0] <= count && count <= bounds[1]; ok != may {
				fault(t, "P1502: %s: %v", tell(e), ok)
			}
			holds(t, e, some())
		}
	}
	for _, n := range []int{-1 << 63, -1 << 32, 1 << 8, 1<<8 + api.EIsLit, 1<<16 + 1, 1 << 32, 1<<32 + api.ENot, 1<<63 - 1, 1<<62 + api.ECoal} {
		for count := range 6 {
			fails(t, some(), api.Expr{Op: n, T: text("t"), Kids: kids[:count:count]})
		}
	}
}

// TestOwnTerm (P2, P4): the T of an operator, and the fields that a kind has not, tell nothing.
func TestOwnTerm(t *testing.T) {
	for n := range 30 {
		if n == api.ETerm {
			continue
		}
		for count := range 4 {
			l := []api.Expr{vari("a"), of(whole("2")), vari("b")}[:count]
			want, _ := value.Eval(op(n, l...), some())
			is(t, api.Expr{Op: n, T: vari("a").T, Kids: l}, some(), want)
			is(t, api.Expr{Op: n, T: truth(true), Kids: l}, some(), want)
		}
	}
}

// TestNested: expressions as questions have them.
func TestNested(t *testing.T) {
	num := func(n int) api.Expr { return of(whole(strconv.Itoa(n))) }
	sum := op(api.EAdd, op(api.EMul, vari("a"), num(3)), op(api.ENeg, op(api.ESub, num(1), num(9))))
	means(t, sum, some(), whole("23"))
	means(t, op(api.EGt, sum, op(api.EAdd, num(22), of(part("0.5")))), some(), truth(true))
	means(t, op(api.EAnd, op(api.EBound, vari("a")), op(api.ENot, op(api.EIsIri, vari("a")))), some(), truth(true))
	means(t, op(api.EOr, op(api.ELt, vari("b"), num(5)), op(api.EHas, op(api.EStr, vari("b")), of(text(":")))), some(), truth(true))
	means(t, op(api.EIf, op(api.EEq, op(api.ELang, vari("d")), of(text("en"))), op(api.ELen, vari("d")), none()), some(), whole("2"))
	means(t, op(api.ECoal, op(api.EAdd, vari("b"), num(1)), op(api.EType, vari("a"))), some(), ref(api.XInt))
	means(t, op(api.ESame, op(api.EType, of(text("x"))), of(ref(aText))), some(), truth(true))
	means(t, op(api.EEq, op(api.EType, vari("d")), op(api.EType, of(spoken("x", "de")))), some(), truth(true))
	means(t, op(api.ELt, op(api.ENot, vari("yes")), op(api.ENot, vari("no"))), some(), truth(true))
	fails(t, some(), op(api.EAdd, op(api.EMul, sum, vari("b")), num(1)))
}
