package lex

import (
	"strings"
	"unicode/utf8"

	"triad/api"
)

// What may stand behind a backslash, and what it is there.
const (
	letters = `tnr"'\`
	meant   = "\t\n\r\"'\\"
)

// text is one, behind its first mark, and what is behind it; of no kind, if anything in it does not fit.
func text(s string, mark rune) (t api.Token, rest string) {
	var b []byte
	from, behind := 0, false // where what b has not yet begins; whether a backslash is ahead
runes:
	for i, c := range s {
		at := strings.IndexRune(letters, c)
		switch {
		case behind && at < 0, c == '\n':
			break runes
		case behind:
			b = append(b, meant[at])
			from, behind = i+1, false
		case c == '\\':
			b = append(b, s[from:i]...)
			behind = true
		case c == mark:
			return api.Token{Kind: api.TText, S: string(append(b, s[from:i]...))}, s[i+1:]
		}
	}
	return api.Token{}, ""
}

// number is one, whose '.' is its own only with a digit behind it, and what is behind it.
func number(s string) (front, rest string) {
	_, rest = row(s, digit)
	part, behind := row(strings.TrimPrefix(rest, "."), digit)
	if part != "" {
		rest = behind
	}
	return s[:len(s)-len(rest)], rest
}

// word is a name, if a ':' stands behind its first row, else a word; and what is behind it.
func word(s string) (t api.Token, rest string) {
	prefix, rest := row(s, dashed)
	local, fits := strings.CutPrefix(rest, ":")
	if !fits {
		t.Kind = api.TWord
		t.S, rest = row(s, named)
		return t, rest
	}
	local, _ = row(local, dotted)
	n := len(prefix) + 1 + len(strings.TrimRight(local, "."))
	return api.Token{Kind: api.TName, S: s[:n]}, s[n:]
}

// begun is a row that begins as few rows do, and what is behind it; nothing, if it begins otherwise.
func begun(s string, first, more func(c rune) bool) (front, rest string) {
	c, _ := utf8.DecodeRuneInString(s)
	if !first(c) {
		return "", s
	}
	return row(s, more)
}

// row is the longest row of what may be at a text's front, and what is behind it.
//
// Runes are enough in a text of any bytes: what may be is of one byte each, or any byte above 127 may be.
func row(s string, may func(c rune) bool) (front, rest string) {
	rest = strings.TrimLeftFunc(s, may)
	return s[:len(s)-len(rest)], rest
}

// referred is whether a reference may have this.
func referred(c rune) bool { return c > ' ' && !strings.ContainsRune("<>\"{}|^\\`", c) }

// dotted is whether a name may have this behind its ':', dashed ahead of it.
func dotted(c rune) bool { return dashed(c) || c == '.' }

func dashed(c rune) bool { return named(c) || c == '-' }

// named is whether a word, a variable's name or a label may have this.
func named(c rune) bool { return letter(c) || digit(c) || c == '_' }

// spoken is whether a language may have this.
func spoken(c rune) bool { return small(c) || c == '-' }

func letter(c rune) bool { return small(c) || 'A' <= c && c <= 'Z' }

func small(c rune) bool { return 'a' <= c && c <= 'z' }

func digit(c rune) bool { return '0' <= c && c <= '9' }
