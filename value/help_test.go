package value_test

import (
	"fmt"
	"math/big"
	"regexp"
	"strconv"
	"strings"
	"sync/atomic"
	"testing"

	"triad/api"
	"triad/value"
)

// The types that no constant of api names.
const (
	aText   = "http://www.w3.org/2001/XMLSchema#string"
	aTongue = "http://www.w3.org/1999/02/22-rdf-syntax-ns#langString"
)

// Terms.

func typed(s, y string) api.Term { return api.Term{Kind: api.Literal, S: s, Type: y} }

func text(s string) api.Term { return typed(s, "") }

func whole(s string) api.Term { return typed(s, api.XInt) }

func part(s string) api.Term { return typed(s, api.XDec) }

func truth(is bool) api.Term { return typed(strconv.FormatBool(is), api.XBool) }

func spoken(s, lang string) api.Term { return api.Term{Kind: api.Literal, S: s, Lang: lang} }

func ref(s string) api.Term { return api.Term{Kind: api.Iri, S: s} }

func node(s string) api.Term { return api.Term{Kind: api.Blank, S: s} }

// Expressions: of a term, of a variable, of others; and one that is an error.

func of(t api.Term) api.Expr { return api.Expr{Op: api.ETerm, T: t} }

func vari(name string) api.Expr { return of(api.Term{Kind: api.Var, S: name}) }

func op(n int, l ...api.Expr) api.Expr { return api.Expr{Op: n, Kids: l} }

func none() api.Expr { return vari("none") }

// opOf is an expression of terms.
func opOf(n int, l ...api.Term) api.Expr {
	e := api.Expr{Op: n}
	for _, t := range l {
		e.Kids = append(e.Kids, of(t))
	}
	return e
}

// The operators, by how many Kids they need.

var ones = []int{api.ENot, api.ENeg, api.EBound, api.EStr, api.ELang, api.EType, api.ELen, api.EIsIri, api.EIsBlank, api.EIsLit}

var twos = []int{api.EOr, api.EAnd, api.EEq, api.ENe, api.ELt, api.ELe, api.EGt, api.EGe, api.EAdd, api.ESub, api.EMul, api.EHas, api.ESame}

// names are the operators' in a fault.
var names = strings.Fields("- term or and not eq ne lt le gt ge add sub mul neg bound str lang type has len isiri isblank islit same if coal")

// tell tells an expression for a fault, as far as it is not too deep.
func tell(e api.Expr) string { return told(e, 6) }

func told(e api.Expr, deep int) string {
	if deep == 0 {
		return ".."
	}
	s := strconv.Itoa(e.Op)
	if e.Op > 0 && e.Op < len(names) {
		s = names[e.Op]
	}
	if e.T != (api.Term{}) {
		s += " " + clip(e.T)
	}
	if len(e.Kids) == 0 {
		return s
	}
	var l []string
	for _, k := range e.Kids[:min(len(e.Kids), 6)] {
		l = append(l, told(k, deep-1))
	}
	return s + "(" + strings.Join(l, ", ") + ")"
}

// clip tells a term for a fault.
func clip(t api.Term) string {
	s := fmt.Sprintf("%d %q", t.Kind, t.S)
	if len(s) > 100 {
		s = s[:80] + ".." + strconv.Itoa(len(t.S))
	}
	if t.Lang != "" {
		s += "@" + t.Lang
	}
	if t.Type != "" {
		s += "^^" + t.Type[strings.LastIndexByte(t.Type, '#')+1:]
	}
	return s
}

// faults is how many were told; behind some of them a test ends with its next one, as more would tell no more.
var faults atomic.Int32

func fault(t *testing.T, format string, l ...any) {
	t.Helper()
	t.Errorf(format, l...)
	if faults.Add(1) > 40 {
		t.FailNow()
	}
}

// The chapter's own words, of numbers that are fractions.

var form = regexp.MustCompile(`^[+-]?[0-9]+(\.[0-9]+)?$`)

// decimal is a fraction's text, as short as may be; "" if it is over.
func decimal(r *big.Rat) string {
	for scale := range 7 {
		s := r.FloatString(scale)
		x, _ := new(big.Rat).SetString(s)
		if x.Cmp(r) != 0 {
			continue
		}
		if digits := strings.TrimLeft(strings.NewReplacer("-", "", ".", "").Replace(s), "0"); len(digits) > 15 {
			return ""
		}
		return s
	}
	return ""
}

// number is a term's; nil, if it is none.
func number(t api.Term) *big.Rat {
	if t.Kind != api.Literal || t.Type != api.XDec && (t.Type != api.XInt || strings.Contains(t.S, ".")) || !form.MatchString(t.S) {
		return nil
	}
	r, is := new(big.Rat).SetString(t.S)
	if !is || decimal(r) == "" {
		return nil
	}
	return r
}

// What a truth is: no, yes, or neither.
const (
	no = iota
	yes
	neither
)

// whether is one that is known.
func whether(is bool) int {
	if is {
		return yes
	}
	return no
}

// pair is one as two results.
func pair(n int) (is, ok bool) { return n == yes, n != neither }

func literal(t api.Term) bool { return t.Kind == api.Literal }

func isText(t api.Term) bool { return literal(t) && t.Lang == "" && t.Type == "" }

func isTruth(t api.Term) bool { return t == truth(true) || t == truth(false) }

// truthOf, equal, less are Truth, Equal, Less by these.
func truthOf(t api.Term) int {
	r := number(t)
	switch {
	case isTruth(t):
		return whether(t.S == "true")
	case r != nil:
		return whether(r.Sign() != 0)
	case isText(t):
		return whether(t.S != "")
	}
	return neither
}

func equal(a, b api.Term) int {
	x, y := number(a), number(b)
	switch {
	case x != nil && y != nil:
		return whether(x.Cmp(y) == 0)
	case isText(a) && isText(b), isTruth(a) && isTruth(b), literal(a) && literal(b) && a.Lang != "" && b.Lang != "":
		return whether(a == b)
	case !literal(a) || !literal(b):
		return whether(a == b)
	case a == b:
		return yes
	}
	return neither
}

func less(a, b api.Term) int {
	x, y := number(a), number(b)
	switch {
	case x != nil && y != nil:
		return whether(x.Cmp(y) < 0)
	case isText(a) && isText(b):
		return whether(a.S < b.S)
	case isTruth(a) && isTruth(b):
		return whether(a.S == "false" && b.S == "true")
	}
	return neither
}

// get is what a solution has; no term, if it has none.
func get(s api.Sol, name string) api.Term {
	for _, p := range s {
		if p.Name == name {
			return p.T
		}
	}
	return api.Term{}
}

// eval is Eval by these; no term is an error.
func eval(e api.Expr, s api.Sol) api.Term {
	k := func(i int) api.Term { return eval(e.Kids[i], s) }
	n := len(e.Kids)
	switch e.Op {
	case api.ETerm:
		if n > 0 {
			return api.Term{}
		}
		if e.T.Kind == api.Var {
			return get(s, e.T.S)
		}
		return e.T
	case api.EBound:
		if n != 1 || e.Kids[0].Op != api.ETerm || e.Kids[0].T.Kind != api.Var || len(e.Kids[0].Kids) > 0 {
			return api.Term{}
		}
		return truth(get(s, e.Kids[0].T.S) != api.Term{})
	case api.EIf:
		if n != 3 {
			return api.Term{}
		}
		switch truthOf(k(0)) {
		case yes:
			return k(1)
		case no:
			return k(2)
		}
		return api.Term{}
	case api.ECoal:
		for i := range e.Kids {
			if x := k(i); x != (api.Term{}) {
				return x
			}
		}
		return api.Term{}
	case api.EOr, api.EAnd:
		if n != 2 {
			return api.Term{}
		}
		return joined(e.Op, truthOf(k(0)), truthOf(k(1)))
	}
	var l []api.Term
	for i := range e.Kids {
		x := k(i)
		if x == (api.Term{}) {
			return x
		}
		l = append(l, x)
	}
	switch n {
	case 1:
		return one(e.Op, l[0])
	case 2:
		return two(e.Op, l[0], l[1])
	}
	return api.Term{}
}

// answer is a truth as a term.
func answer(n int) api.Term {
	if n == neither {
		return api.Term{}
	}
	return truth(n == yes)
}

func joined(op, a, b int) api.Term {
	switch {
	case op == api.EOr && (a == yes || b == yes):
		return truth(true)
	case op == api.EOr && a == no && b == no:
		return truth(false)
	case op == api.EAnd && (a == no || b == no):
		return truth(false)
	case op == api.EAnd && a == yes && b == yes:
		return truth(true)
	}
	return api.Term{}
}

// unless is the truth that is not that one.
func unless(n int) int {
	if n == neither {
		return n
	}
	return 1 - n
}

func one(op int, t api.Term) api.Term {
	switch {
	case op == api.ENot:
		return answer(unless(truthOf(t)))
	case op == api.EIsIri, op == api.EIsBlank, op == api.EIsLit:
		return truth(t.Kind == map[int]int{api.EIsIri: api.Iri, api.EIsBlank: api.Blank, api.EIsLit: api.Literal}[op])
	case op == api.ENeg && number(t) != nil:
		return typed(decimal(new(big.Rat).Neg(number(t))), t.Type)
	case op == api.EStr && (literal(t) || t.Kind == api.Iri):
		return text(t.S)
	case op == api.ELang && literal(t):
		return text(t.Lang)
	case op == api.EType && literal(t):
		switch {
		case t.Type != "":
			return ref(t.Type)
		case t.Lang != "":
			return ref(aTongue)
		}
		return ref(aText)
	case op == api.ELen && literal(t):
		return whole(strconv.Itoa(len(t.S)))
	}
	return api.Term{}
}

func two(op int, a, b api.Term) api.Term {
	switch op {
	case api.EEq:
		return answer(equal(a, b))
	case api.ENe:
		return answer(unless(equal(a, b)))
	case api.ELt:
		return answer(less(a, b))
	case api.EGt:
		return answer(less(b, a))
	case api.ELe:
		return orEqual(less(a, b), equal(a, b))
	case api.EGe:
		return orEqual(less(b, a), equal(a, b))
	case api.ESame:
		return truth(a == b)
	case api.EHas:
		if !literal(a) || !literal(b) {
			return api.Term{}
		}
		return truth(strings.Contains(a.S, b.S))
	}
	return reckoned(op, a, b)
}

func orEqual(less, equal int) api.Term {
	if less == neither {
		return api.Term{}
	}
	return truth(less == yes || equal == yes)
}

func reckoned(op int, a, b api.Term) api.Term {
	x, y, z := number(a), number(b), new(big.Rat)
	if x == nil || y == nil {
		return api.Term{}
	}
	switch op {
	case api.EAdd:
		z.Add(x, y)
	case api.ESub:
		z.Sub(x, y)
	case api.EMul:
		z.Mul(x, y)
	default:
		return api.Term{}
	}
	s := decimal(z)
	switch {
	case s == "":
		return api.Term{}
	case a.Type == api.XInt && b.Type == api.XInt:
		return whole(s)
	}
	return part(s)
}

// Faults.

// is tells a fault where Eval answers another term; no term is an error.
func is(t *testing.T, e api.Expr, s api.Sol, want api.Term) {
	t.Helper()
	got, ok := value.Eval(e, s)
	if got != want || ok != (want != api.Term{}) {
		fault(t, "P1502: %s: %s %v, not %s", tell(e), clip(got), ok, clip(want))
	}
}

// means is of what is written out and of what the words say.
func means(t *testing.T, e api.Expr, s api.Sol, want api.Term) {
	t.Helper()
	is(t, e, s, want)
	if words := eval(e, s); words != want {
		fault(t, "%s: the words say %s, not %s", tell(e), clip(words), clip(want))
	}
}

// holds is of what the words say alone.
func holds(t *testing.T, e api.Expr, s api.Sol) {
	t.Helper()
	is(t, e, s, eval(e, s))
}

// fails is of errors.
func fails(t *testing.T, s api.Sol, l ...api.Expr) {
	t.Helper()
	for _, e := range l {
		means(t, e, s, api.Term{})
	}
}

// truths tells a fault where Truth answers another one.
func truths(t *testing.T, x api.Term, want int) {
	t.Helper()
	is, ok := value.Truth(x)
	if should, known := pair(want); is != should || ok != known {
		fault(t, "P1501: Truth of %s: %v %v, not %v %v", clip(x), is, ok, should, known)
	}
	if words := truthOf(x); words != want {
		fault(t, "%s: the words say %d, not %d", clip(x), words, want)
	}
}

// compares tells faults where Equal, Less, and the operators of them, answer something else, either way about.
func compares(t *testing.T, a, b api.Term, same, below, above int) {
	t.Helper()
	if equal(a, b) != same || less(a, b) != below || less(b, a) != above {
		fault(t, "%s and %s: the words say %d %d %d", clip(a), clip(b), equal(a, b), less(a, b), less(b, a))
	}
	for range 2 {
		between(t, "Equal", value.Equal, a, b, same)
		between(t, "Less", value.Less, a, b, below)
		is(t, opOf(api.EEq, a, b), nil, answer(same))
		is(t, opOf(api.ENe, a, b), nil, answer(unless(same)))
		is(t, opOf(api.ELt, a, b), nil, answer(below))
		is(t, opOf(api.EGt, a, b), nil, answer(above))
		is(t, opOf(api.ELe, a, b), nil, orEqual(below, same))
		is(t, opOf(api.EGe, a, b), nil, orEqual(above, same))
		a, b, below, above = b, a, above, below
	}
}

func between(t *testing.T, name string, call func(a, b api.Term) (is, ok bool), a, b api.Term, want int) {
	t.Helper()
	is, ok := call(a, b)
	if should, known := pair(want); is != should || ok != known {
		fault(t, "P1501: %s of %s and %s: %v %v, not %v %v", name, clip(a), clip(b), is, ok, should, known)
	}
}

// alike, rising, apart, odd, out are of two that are the same; that stand in that order; that differ and have no order;
// of which nothing is known; that are the same and have no order.

func alike(t *testing.T, a, b api.Term) { t.Helper(); compares(t, a, b, yes, no, no) }

func rising(t *testing.T, a, b api.Term) { t.Helper(); compares(t, a, b, no, yes, no) }

func apart(t *testing.T, a, b api.Term) { t.Helper(); compares(t, a, b, no, neither, neither) }

func odd(t *testing.T, a, b api.Term) { t.Helper(); compares(t, a, b, neither, neither, neither) }

func same(t *testing.T, a api.Term) { t.Helper(); compares(t, a, a, yes, neither, neither) }
