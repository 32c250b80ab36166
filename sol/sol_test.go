package sol_test

import (
	"slices"
	"testing"
	"unsafe"

	"triad/api"
	"triad/sol"
)

// lent is a text of bytes that change later.
func lent(b []byte) string { return unsafe.String(unsafe.SliceData(b), len(b)) }

func some() api.Sol {
	return api.Sol{
		{Name: "A", T: api.Term{Kind: api.Literal, S: "5", Type: api.XInt}},
		{Name: "a", T: api.Term{Kind: api.Iri, S: "x:y"}},
		{Name: "a_b", T: api.Term{Kind: api.Blank, S: "q"}},
		{Name: "ab1", T: api.Term{Kind: api.Literal, Lang: "en"}},
	}
}

// TestGet (P1601): each of a solution's variables, and names that are nearly one of them.
func TestGet(t *testing.T) {
	for _, p := range some() {
		if got, is := sol.Get(some(), p.Name); !is || got != p.T {
			t.Errorf("P1601: %s: %v %v", p.Name, got, is)
		}
	}
	for _, name := range []string{"", "B", "b", "a_", "a_bc", "ab", "ab12", "A\x00", "?a", "_"} {
		if got, is := sol.Get(some(), name); is || got != (api.Term{}) {
			t.Errorf("P1601: %s: %v %v", name, got, is)
		}
	}
	for _, s := range []api.Sol{nil, {}} {
		if got, is := sol.Get(s, "a"); is || got != (api.Term{}) {
			t.Errorf("P1601: of none: %v %v", got, is)
		}
	}
}

// TestGetMemory (P2): a solution stays as it is, and a term as it was told.
func TestGetMemory(t *testing.T) {
	b := []byte("x:y")
	s := api.Sol{{Name: "a", T: api.Term{Kind: api.Iri, S: lent(b)}}, {Name: "b", T: api.Term{Kind: api.Blank, S: "q"}}}
	old := slices.Clone(s)
	got, _ := sol.Get(s[:1], "a")
	none, is := sol.Get(s[:1], "b") // in the room behind it
	if !slices.Equal(s, old) || is || none != (api.Term{}) {
		t.Errorf("P2: %v, %v %v", s, none, is)
	}
	clear(b)
	if got.S != "x:y" {
		t.Errorf("P2: %q", got.S)
	}
}
