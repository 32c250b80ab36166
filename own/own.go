// Package own: new memory for what is answered.
//
// It is no layer: no answer may share memory with what was handed in, and a term's texts are cut out of that, or are it.
package own

import (
	"strings"

	"triad/api"
)

// Term is a term whose texts nobody else has.
func Term(t api.Term) api.Term {
	return api.Term{Kind: t.Kind, S: strings.Clone(t.S), Lang: strings.Clone(t.Lang), Type: strings.Clone(t.Type)}
}
