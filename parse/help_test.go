package parse_test

import (
	"fmt"
	"reflect"
	"strconv"
	"strings"
	"sync/atomic"
	"testing"

	"triad/api"
	"triad/parse"
	"triad/term"
)

// longest is how many bytes a text may have.
const longest = 4000

func x(n int) string { return strings.Repeat("x", n) }

func vari(s string) api.Term { return api.Term{Kind: api.Var, S: s} }

func ref(s string) api.Term { return api.Term{Kind: api.Iri, S: s} }

func node(s string) api.Term { return api.Term{Kind: api.Blank, S: s} }

func lit(s string) api.Term { return api.Term{Kind: api.Literal, S: s} }

func typed(s, y string) api.Term { return api.Term{Kind: api.Literal, S: s, Type: y} }

// clip tells a text for a fault.
func clip(s string) string {
	if len(s) > 600 {
		s = s[:560] + ".." + strconv.Itoa(len(s)) + ".." + s[len(s)-30:]
	}
	return strconv.Quote(s)
}

// faults is how many were told; behind some of them a test ends with its next one, as more would tell no more.
var faults atomic.Int32

func fault(t *testing.T, format string, l ...any) {
	t.Helper()
	t.Errorf(format, l...)
	if faults.Add(1) > 40 {
		t.FailNow()
	}
}

// tell tells an answer for a fault, with all of its fields.
func tell(v any) string { return clip(fmt.Sprintf("%+v", v)) }

// same is whether two answers are; no list and an empty one are.
func same(a, b any) bool { return alike(reflect.ValueOf(a), reflect.ValueOf(b)) }

func alike(a, b reflect.Value) bool {
	switch a.Kind() {
	case reflect.Slice:
		if a.Len() != b.Len() {
			return false
		}
		for i := range a.Len() {
			if !alike(a.Index(i), b.Index(i)) {
				return false
			}
		}
		return true
	case reflect.Struct:
		for i := range a.NumField() {
			if !alike(a.Field(i), b.Field(i)) {
				return false
			}
		}
		return true
	}
	return a.Equal(b)
}

// only marks what has more than this, which has just what its kind may have.
func only(all, this any) string {
	if same(all, this) {
		return ""
	}
	return "MORE:" + tell(all)
}

// short is for what is told of long references.
var short = strings.NewReplacer("<"+api.RType+">", "TYPE", "^^<"+api.XInt+">", "", "^^<"+api.XDec+">", "d", "^^<"+api.XBool+">", "b")

// termed is a term in short: "5" an integer, "5"d a decimal, "5"s a plain text.
func termed(t api.Term) string {
	switch {
	case t.Kind == api.Var:
		return "?" + t.S + only(t, vari(t.S))
	case t == lit(t.S):
		return term.Text(t) + "s"
	case t == api.Term{}:
		return "-"
	}
	return short.Replace(term.Text(t))
}

// way is a way in short.
func way(w api.Path) string {
	if w.Op == api.PIri {
		return termed(ref(w.S)) + only(w, api.Path{Op: w.Op, S: w.S})
	}
	var l []string
	for _, k := range w.Kids {
		l = append(l, way(k))
	}
	s := map[int]string{api.PInv: "inv", api.PSeq: "seq", api.PAlt: "alt", api.PStar: "star", api.PPlus: "plus", api.POpt: "opt"}[w.Op]
	return s + "(" + strings.Join(l, " ") + ")" + only(w, api.Path{Op: w.Op, Kids: w.Kids})
}

// stepped are steps in short.
func stepped(l []api.Step) string {
	var out []string
	for _, y := range l {
		p := termed(y.P) + only(y.Way, api.Path{})
		if y.P == (api.Term{}) {
			p = way(y.Way)
		}
		out = append(out, termed(y.S)+" "+p+" "+termed(y.O))
	}
	return strings.Join(out, ", ")
}

// words are the expressions' numbers in short.
var words = strings.Fields("- - or and not eq ne lt le gt ge add sub mul neg bound str lang type has len isiri isblank islit same if coal")

// expr is an expression in short.
func expr(e api.Expr) string {
	if e.Op == api.ETerm {
		return termed(e.T) + only(e, api.Expr{Op: e.Op, T: e.T})
	}
	var l []string
	for _, k := range e.Kids {
		l = append(l, expr(k))
	}
	return words[e.Op] + "(" + strings.Join(l, " ") + ")" + only(e, api.Expr{Op: e.Op, Kids: e.Kids})
}

// pattern is a pattern in short.
func pattern(p api.Pattern) string {
	just := api.Pattern{Op: p.Op}
	var l []string
	s := map[int]string{api.GSteps: "", api.GJoin: "join", api.GLeft: "left", api.GUnion: "union", api.GMinus: "minus", api.GFilter: "filter", api.GBind: "bind", api.GValues: "values"}[p.Op]
	for _, k := range p.Kids {
		l = append(l, pattern(k))
	}
	switch p.Op {
	case 0:
		return "nothing" + only(p, api.Pattern{})
	case api.GSteps:
		just.Steps = p.Steps
		return "[" + stepped(p.Steps) + "]" + only(p, just)
	case api.GFilter:
		just.E = p.E
		l = append(l, expr(p.E))
	case api.GBind:
		just.E, just.Name = p.E, p.Name
		l = append(l, expr(p.E), "?"+p.Name)
	case api.GValues:
		just.Name, just.Terms = p.Name, p.Terms
		l = append(l, "?"+p.Name)
		for _, t := range p.Terms {
			l = append(l, termed(t))
		}
	}
	just.Kids = p.Kids
	return s + "(" + strings.Join(l, " ") + ")" + only(p, just)
}

// asked tells faults where Query and the rules differ; it answers what both tell, and at which token they end.
func asked(t *testing.T, s string) (api.Query, api.Errno, int) {
	t.Helper()
	q, e := parse.Query(s)
	want, f, at := query(s)
	if e != f || !same(q, want) {
		fault(t, "P1402: %s: %s %v, not %s %v", clip(s), tell(q), e, tell(want), f)
	}
	return q, e, at
}

// changed is likewise of Update.
func changed(t *testing.T, s string) (api.Update, api.Errno, int) {
	t.Helper()
	u, e := parse.Update(s)
	want, f, at := update(s)
	if e != f || !same(u, want) {
		fault(t, "P1403: %s: %s %v, not %s %v", clip(s), tell(u), e, tell(want), f)
	}
	return u, e, at
}

// frames are what a group may stand in: all that has one.
var frames = []string{"ASK ", "SELECT * ", "SELECT DISTINCT * WHERE ", "CONSTRUCT { } ", "CONSTRUCT { } WHERE "}

var changes = []string{"DELETE { } WHERE ", "INSERT { } WHERE ", "DELETE { } INSERT { } WHERE "}

// means tells a fault where a group is not this pattern in short, whatever it stands in.
func means(t *testing.T, s, want string) {
	t.Helper()
	for _, f := range frames {
		q, e, _ := asked(t, f+s)
		if got := pattern(q.Where); e != api.OK || got != want {
			fault(t, "P1401: %s: %s %v, not %s", clip(f+s), clip(got), e, clip(want))
		}
	}
	for _, f := range changes {
		u, e, _ := changed(t, f+s)
		if got := pattern(u.Where); e != api.OK || got != want {
			fault(t, "P1401: %s: %s %v, not %s", clip(f+s), clip(got), e, clip(want))
		}
	}
}

// bad tells a fault where a group, whatever it stands in, has another error.
func bad(t *testing.T, s string, want api.Errno) {
	t.Helper()
	for _, f := range frames {
		refuses(t, f+s, want)
	}
	for _, f := range changes {
		rejects(t, f+s, want)
	}
}

// refuses tells a fault where Query answers another error, or anything beside it.
func refuses(t *testing.T, s string, want api.Errno) {
	t.Helper()
	q, e, _ := asked(t, s)
	if e != want || e != api.OK && !same(q, api.Query{}) {
		fault(t, "P1402: %s: %s %v, not %v", clip(s), tell(q), e, want)
	}
}

// rejects is likewise of Update.
func rejects(t *testing.T, s string, want api.Errno) {
	t.Helper()
	u, e, _ := changed(t, s)
	if e != want || e != api.OK && !same(u, api.Update{}) {
		fault(t, "P1403: %s: %s %v, not %v", clip(s), tell(u), e, want)
	}
}

// asks tells a fault where Query answers something else.
func asks(t *testing.T, s string, want api.Query) {
	t.Helper()
	q, e, _ := asked(t, s)
	if e != api.OK || !same(q, want) {
		fault(t, "P1402: %s: %s %v, not %s", clip(s), tell(q), e, tell(want))
	}
}

// changesTo is likewise of Update.
func changesTo(t *testing.T, s string, want api.Update) {
	t.Helper()
	u, e, _ := changed(t, s)
	if e != api.OK || !same(u, want) {
		fault(t, "P1403: %s: %s %v, not %s", clip(s), tell(u), e, tell(want))
	}
}
