package value

import (
	"cmp"
	"strconv"
	"strings"

	"triad/api"
	"triad/dec"
	"triad/sol"
)

// The types that a literal without one has.
const (
	text   = "http://www.w3.org/2001/XMLSchema#string"
	tongue = "http://www.w3.org/1999/02/22-rdf-syntax-ns#langString"
)

// What truths are, in the order in which EOr takes the last of two, and EAnd the first.
const (
	no = iota
	unknown
	yes
)

// fits tells whether there is such an operator, and it needs so many Kids.
func fits(op, kids int) bool {
	need := 0
	switch op {
	case api.ECoal:
		return kids > 0
	case api.EIf:
		need++
		fallthrough
	case api.EOr, api.EAnd, api.EEq, api.ENe, api.ELt, api.ELe, api.EGt, api.EGe,
		api.EAdd, api.ESub, api.EMul, api.EHas, api.ESame:
		need++
		fallthrough
	case api.ENot, api.ENeg, api.EBound, api.EStr, api.ELang, api.EType, api.ELen,
		api.EIsIri, api.EIsBlank, api.EIsLit:
		need++
		fallthrough
	case api.ETerm:
		return kids == need
	}
	return false
}

// bound is EBound of a Kid, which is not told.
func bound(e api.Expr, s api.Sol) (api.Term, bool) {
	_, is := sol.Get(s, e.T.S)
	return boolean(is, e.Op == api.ETerm && e.T.Kind == api.Var && len(e.Kids) == 0)
}

// one is an operator's of one Kid, which told a term.
func one(op int, t api.Term) (api.Term, bool) {
	literal := t.Kind == api.Literal
	switch op {
	case api.ENot:
		is, ok := Truth(t)
		return boolean(!is, ok)
	case api.ENeg:
		z := weigh(t)
		return numeral(dec.Neg(decimal(z)), t.Type, numbers(z, z))
	case api.EStr:
		return api.Term{Kind: api.Literal, S: t.S}, literal || t.Kind == api.Iri
	case api.ELang:
		return api.Term{Kind: api.Literal, S: t.Lang}, literal
	case api.EType:
		return api.Term{Kind: api.Iri, S: typeOf(t)}, literal
	case api.ELen:
		return api.Term{Kind: api.Literal, S: strconv.Itoa(len(t.S)), Type: api.XInt}, literal
	case api.EIsIri:
		return boolean(t.Kind == api.Iri, true)
	case api.EIsBlank:
		return boolean(t.Kind == api.Blank, true)
	case api.EIsLit:
		return boolean(literal, true)
	}
	return api.Term{}, false
}

func typeOf(t api.Term) string {
	if t.Lang != "" {
		return cmp.Or(t.Type, tongue)
	}
	return cmp.Or(t.Type, text)
}

// two is an operator's of two Kids, which told terms; but of EOr and EAnd nothing of an error, whose truth is unknown.
func two(op int, a, b api.Term) (api.Term, bool) {
	switch op {
	case api.EOr, api.EAnd:
		return logic(op, a, b)
	case api.EEq:
		return boolean(Equal(a, b))
	case api.ENe:
		is, ok := Equal(a, b)
		return boolean(!is, ok)
	case api.EGt:
		a, b = b, a
		fallthrough
	case api.ELt:
		return boolean(Less(a, b))
	case api.EGe:
		a, b = b, a
		fallthrough
	case api.ELe:
		less, ok := Less(a, b)
		same, _ := Equal(a, b)
		return boolean(less || same, ok)
	case api.EHas:
		return boolean(strings.Contains(a.S, b.S), a.Kind == api.Literal && b.Kind == api.Literal)
	case api.ESame:
		return boolean(a == b, true)
	}
	return reckon(op, a, b)
}

func logic(op int, a, b api.Term) (api.Term, bool) {
	x, y := level(a), level(b)
	z := min(x, y)
	if op == api.EOr {
		z = max(x, y)
	}
	return boolean(z == yes, z != unknown)
}

func level(t api.Term) int {
	is, ok := Truth(t)
	switch {
	case !ok:
		return unknown
	case is:
		return yes
	}
	return no
}

// reckon is EAdd's, ESub's, EMul's.
func reckon(op int, a, b api.Term) (api.Term, bool) {
	var d api.Dec
	var ok bool
	x, y := weigh(a), weigh(b)
	if !numbers(x, y) {
		return api.Term{}, false
	}
	m, n := decimal(x), decimal(y)
	switch op {
	case api.EMul:
		d, ok = dec.Mul(m, n)
	case api.ESub:
		n = dec.Neg(n)
		fallthrough
	case api.EAdd:
		d, ok = dec.Add(m, n)
	}
	if a.Type != b.Type {
		return numeral(d, api.XDec, ok)
	}
	return numeral(d, a.Type, ok)
}

// numeral is a number of that type.
func numeral(d api.Dec, kind string, ok bool) (api.Term, bool) {
	return api.Term{Kind: api.Literal, S: dec.Print(d), Type: kind}, ok
}

func boolean(is, ok bool) (api.Term, bool) {
	return api.Term{Kind: api.Literal, S: strconv.FormatBool(is), Type: api.XBool}, ok
}
