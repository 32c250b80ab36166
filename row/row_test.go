package row_test

import (
	"testing"

	"triad/api"
	"triad/row"
)

func same(s string) string { return s }

// TestFault: the first one stays, and leaves no token.
func TestFault(t *testing.T) {
	r := row.New("a . b", same)
	if r.Fault() != api.OK || !r.More() || r.Peek() != row.Word("a") {
		t.Errorf("%v %v", r.Fault(), r.Peek())
	}
	r.Fail(api.ErrName)
	r.Fail(api.ErrWord)
	if r.Fault() != api.ErrName || r.More() || r.Peek() != (api.Token{}) || r.Next() != (api.Token{}) || r.Take(".") {
		t.Errorf("%v %v", r.Fault(), r.Peek())
	}
	r = row.New("a &", same)
	r.Fail(api.ErrName)
	if r.Fault() != api.ErrWord || r.More() {
		t.Errorf("%v %v", r.Fault(), r.Peek())
	}
}

func TestTokens(t *testing.T) {
	r := row.New("a . '.' b", same)
	if r.Take(".") || r.Pass(row.Word("b")) || !r.Pass(row.Word("a")) || !r.Take(".") || r.Take(".") || r.Next() != (api.Token{Kind: api.TText, S: "."}) {
		t.Errorf("%v", r.Peek())
	}
	r.Need(".")
	if r.Fault() != api.ErrWord {
		t.Errorf("%v", r.Fault())
	}
}

// TestTerms: those of one text, behind one another, with references that are told in another way.
func TestTerms(t *testing.T) {
	r := row.New("p: <a> <b> p:c 'd' 'e'@en 'f'^^p:g 5 - 5.0 +5 true _:h", func(s string) string { return s + s })
	r.Prefix()
	for _, want := range []string{"bb", "aac"} {
		got, is := r.Literal()
		if is || got != (api.Term{}) {
			t.Errorf("%v", got)
		}
		if got := r.Iri(); got != row.Named(want) {
			t.Errorf("%v, not %s", got, want)
		}
	}
	for _, want := range []api.Term{{S: "d"}, {S: "e", Lang: "en"}, {S: "f", Type: "aag"}, {S: "5", Type: api.XInt}, {S: "-5.0", Type: api.XDec}, {S: "5", Type: api.XInt}, {S: "true", Type: api.XBool}} {
		want.Kind = api.Literal
		if got, is := r.Literal(); !is || got != want {
			t.Errorf("%v, not %v", got, want)
		}
	}
	if got, is := r.Literal(); is || r.Fault() != api.OK {
		t.Errorf("%v %v", got, r.Fault())
	}
	r.Iri()
	if r.Fault() != api.ErrWord {
		t.Errorf("%v", r.Fault())
	}
	for s, want := range map[string]api.Errno{"+ 5": api.OK, "5": api.OK, "x:y": api.OK, "- <a>": api.OK} {
		r := row.New(s, same)
		_, is := r.Unsigned()
		if is != (s == "5") || r.Fault() != want {
			t.Errorf("%s: %v %v", s, is, r.Fault())
		}
	}
	for s, want := range map[string]api.Errno{"- <a>": api.ErrWord, "+": api.ErrWord, "'a'^^": api.ErrWord, "'a'^^x:y": api.ErrName} {
		r := row.New(s, same)
		r.Literal()
		if r.Fault() != want {
			t.Errorf("%s: %v", s, r.Fault())
		}
	}
}
