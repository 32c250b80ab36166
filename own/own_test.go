package own_test

import (
	"testing"
	"unsafe"

	"triad/api"
	"triad/own"
)

// lent is a text of bytes that change later.
func lent(b []byte) string { return unsafe.String(unsafe.SliceData(b), len(b)) }

func TestTerm(t *testing.T) {
	for _, want := range []api.Term{{}, {Kind: -1, S: "a", Lang: "b", Type: "c"}, {Kind: api.Iri, S: "a:b"}, {Kind: api.Literal, S: "a\x00\xff", Type: api.XInt}} {
		s, l, y := []byte(want.S), []byte(want.Lang), []byte(want.Type)
		got := own.Term(api.Term{Kind: want.Kind, S: lent(s), Lang: lent(l), Type: lent(y)})
		clear(s)
		clear(l)
		clear(y)
		if got != want {
			t.Errorf("P2: %v, not %v", got, want)
		}
	}
}
