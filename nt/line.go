package nt

import (
	"strings"

	"triad/api"
	"triad/term"
)

// The bytes that part words, and the letters that stand behind a backslash for the bytes from 9 on (11 and 12 have none).
const (
	blanks  = " \t"
	letters = "tn__r"
)

// endless is a line without its end: a carriage return goes with a line feed alone.
func endless(s string) string {
	return strings.TrimSuffix(strings.TrimSuffix(s, "\r\n"), "\n")
}

// over is whether there is nothing more in a line, but a remark.
func over(s string) bool {
	s = strings.TrimLeft(s, blanks)
	return s == "" || s[0] == '#'
}

// triple is a line's. That all its bytes fit goes ahead of what its terms have wrong.
func triple(s string) (api.Triple, api.Errno) {
	var t api.Triple
	var fits bool
	e := api.ErrWord
	for i := range t {
		t[i], s, fits = word(strings.TrimLeft(s, blanks))
		if !fits {
			goto none
		}
	}
	s, fits = strings.CutPrefix(strings.TrimLeft(s, blanks), ".")
	if !fits || !over(s) {
		goto none
	}
	e = term.Fits(t)
	if e == api.OK {
		return t, api.OK
	}
none:
	return api.Triple{}, e
}

// word is the term at a text's front, and what is behind it; false, if a byte of it does not fit.
func word(s string) (t api.Term, rest string, fits bool) {
	switch {
	case strings.HasPrefix(s, "<"):
		t.Kind = api.Iri
		t.S, rest, fits = strings.Cut(s[1:], ">")
	case strings.HasPrefix(s, "_:"):
		t.Kind = api.Blank
		t.S, rest = row(s[2:], named)
		fits = true
	case strings.HasPrefix(s, `"`):
		return literal(s[1:])
	}
	return t, rest, fits
}

// literal is one, behind its first mark, and what is behind it; false, if a byte of it does not fit.
func literal(s string) (t api.Term, rest string, fits bool) {
	t.Kind = api.Literal
	t.S, rest, fits = quoted(s)
	if !fits {
		return t, rest, false
	}
	switch {
	case strings.HasPrefix(rest, "@"):
		t.Lang, rest = row(rest[1:], spoken)
	case strings.HasPrefix(rest, "^^<"):
		t.Type, rest, fits = strings.Cut(rest[3:], ">")
	}
	return t, rest, fits
}

// quoted are the bytes up to the next mark, and what is behind it; false, if there is none, or a backslash ahead of it
// has another byte behind.
func quoted(s string) (text, rest string, fits bool) {
	var b []byte
	for i := 0; i < len(s); i++ {
		c := s[i]
		switch c {
		case '"':
			return string(b), s[i+1:], true
		case '\\':
			i++
			c, fits = meant(s[i:])
			if !fits {
				return "", "", false
			}
		}
		b = append(b, c)
	}
	return "", "", false
}

// meant is the byte that stands for itself or for another one behind a backslash; false, if there is none.
func meant(s string) (byte, bool) {
	if s == "" {
		return 0, false
	}
	c := s[0]
	switch c {
	case 't', 'n', 'r':
		c = '\t' + byte(strings.IndexByte(letters, c))
		fallthrough
	case '"', '\\':
		return c, true
	}
	return 0, false
}

// row is the longest row of what may be at a text's front, and what is behind it.
//
// Signs that may be are of one byte each, and no byte of another sign is taken for one of them: runes are enough, in a
// text of any bytes.
func row(s string, may func(r rune) bool) (front, rest string) {
	rest = strings.TrimLeftFunc(s, may)
	return s[:len(s)-len(rest)], rest
}

// named is whether a label may have this.
func named(r rune) bool {
	return small(r) || 'A' <= r && r <= 'Z' || '0' <= r && r <= '9' || r == '_'
}

// spoken is whether a language may have this.
func spoken(r rune) bool { return small(r) || r == '-' }

func small(r rune) bool { return 'a' <= r && r <= 'z' }
