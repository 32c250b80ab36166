package iri

import (
	"bytes"
	"cmp"
	"strings"
)

// step is a path's first segment: the '/' that it begins with, if it does, and its name.
type step [2]string

// next parts a path behind its first step. What is left begins with '/', or is nothing.
func next(s string) (first step, rest string) {
	name := strings.TrimPrefix(s, "/")
	first[0] = s[:len(s)-len(name)]
	first[1], rest = until(name, "/")
	return first, rest
}

// dotless is a path without dots. Behind dots a path's end goes as a '/' does.
func dotless(s string) string {
	var out []byte
	for s != "" {
		first, rest := next(s)
		switch {
		case first == step{"", "."}, first == step{"", ".."}:
			s = strings.TrimPrefix(rest, "/")
		case first == step{"/", ".."}:
			out = out[:max(bytes.LastIndexByte(out, '/'), 0)]
			fallthrough
		case first == step{"/", "."}:
			s = cmp.Or(rest, "/")
		default:
			out = append(out, s[:len(s)-len(rest)]...)
			s = rest
		}
	}
	return string(out)
}
