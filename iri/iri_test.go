package iri_test

import (
	"regexp"
	"slices"
	"strconv"
	"strings"
	"sync"
	"testing"
	"unsafe"

	"triad/iri"
)

// clip tells a text for a fault.
func clip(s string) string {
	if len(s) > 90 {
		s = s[:60] + ".." + strconv.Itoa(len(s)) + ".." + s[len(s)-10:]
	}
	return strconv.Quote(s)
}

// show tells parts for a fault.
func show(p [5]string) string {
	var l []string
	for _, s := range p {
		l = append(l, clip(s))
	}
	return strings.Join(l, " ")
}

// splits tells a fault where Split answers other parts.
func splits(t *testing.T, s string, want ...string) {
	t.Helper()
	var p [5]string
	copy(p[:], want)
	if got := iri.Split(s); got != p {
		t.Errorf("P1001: %s: %s, not %s", clip(s), show(got), show(p))
	}
}

// resolves tells a fault where Resolve answers another text.
func resolves(t *testing.T, base, ref, want string) {
	t.Helper()
	if got := iri.Resolve(base, ref); got != want {
		t.Errorf("P1002: %s and %s: %s, not %s", clip(base), clip(ref), clip(got), clip(want))
	}
}

// The chapter's own words: of Split as a pattern, of texts whose runes are the bytes.

var partsForm = regexp.MustCompile(`^(?s:([^:/?#]+:)?(//[^/?#]*)?([^?#]*)(\?[^#]*)?(#.*)?)$`)

// wide is a text whose runes are the bytes of another, narrow is that other again.
func wide(s string) string {
	var l []rune
	for i := range len(s) {
		l = append(l, rune(s[i]))
	}
	return string(l)
}

func narrow(s string) string {
	var b []byte
	for _, r := range s {
		b = append(b, byte(r))
	}
	return string(b)
}

// split is Split by this pattern.
func split(s string) (p [5]string) {
	m := partsForm.FindStringSubmatch(wide(s))
	for i := range p {
		p[i] = narrow(m[i+1])
	}
	return p
}

// dotless is a path without dots, word by word.
func dotless(s string) string {
	out := ""
	for s != "" {
		switch {
		case strings.HasPrefix(s, "../"):
			s = s[3:]
		case strings.HasPrefix(s, "./"):
			s = s[2:]
		case strings.HasPrefix(s, "/./"):
			s = "/" + s[3:]
		case s == "/.":
			s = "/"
		case strings.HasPrefix(s, "/../"):
			s = "/" + s[4:]
			out = shorter(out)
		case s == "/..":
			s = "/"
			out = shorter(out)
		case s == ".", s == "..":
			s = ""
		default:
			n := 1
			for n < len(s) && s[n] != '/' {
				n++
			}
			out += s[:n]
			s = s[n:]
		}
	}
	return out
}

// shorter is what was put out, without its last '/' and what is behind it.
func shorter(s string) string {
	for i := len(s) - 1; i >= 0; i-- {
		if s[i] == '/' {
			return s[:i]
		}
	}
	return ""
}

// resolve is Resolve by these, each of the five ways by itself.
func resolve(base, ref string) string {
	b, r := split(base), split(ref)
	switch {
	case r[0] != "":
		return r[0] + r[1] + dotless(r[2]) + r[3] + r[4]
	case r[1] != "":
		return b[0] + r[1] + dotless(r[2]) + r[3] + r[4]
	case r[2] == "" && r[3] != "":
		return b[0] + b[1] + b[2] + r[3] + r[4]
	case r[2] == "":
		return b[0] + b[1] + b[2] + b[3] + r[4]
	case r[2][0] == '/':
		return b[0] + b[1] + dotless(r[2]) + r[3] + r[4]
	case b[1] != "" && b[2] == "":
		return b[0] + b[1] + dotless("/"+r[2]) + r[3] + r[4]
	}
	n := len(b[2])
	for n > 0 && b[2][n-1] != '/' {
		n--
	}
	return b[0] + b[1] + dotless(b[2][:n]+r[2]) + r[3] + r[4]
}

// tellsParts, tells tell a fault where Split, Resolve and these differ.
func tellsParts(t *testing.T, s string) {
	t.Helper()
	p := split(s)
	splits(t, s, p[:]...)
	if got := iri.Split(s); strings.Join(got[:], "") != s {
		t.Errorf("P1001: %s: %s", clip(s), show(got))
	}
}

func tells(t *testing.T, base, ref string) {
	t.Helper()
	resolves(t, base, ref, resolve(base, ref))
}

// P1001

func TestSplit(t *testing.T) {
	splits(t, "")
	splits(t, "http://a/b/c?d#e", "http:", "//a", "/b/c", "?d", "#e")
	splits(t, "http://www.w3.org/2001/XMLSchema#integer", "http:", "//www.w3.org", "/2001/XMLSchema", "", "#integer")
	splits(t, "urn:a:b:c", "urn:", "", "a:b:c")
	splits(t, "mailto:a@b.c?d=e", "mailto:", "", "a@b.c", "?d=e")
	splits(t, "file:///a/b", "file:", "//", "/a/b")
	splits(t, "//u:p@h:80/a:b?c:d#e:f", "", "//u:p@h:80", "/a:b", "?c:d", "#e:f")
	splits(t, "/a/b", "", "", "/a/b")
	splits(t, "a/b", "", "", "a/b")
	splits(t, "../g", "", "", "../g")
	splits(t, ".", "", "", ".")
	splits(t, "a b\t\n\x00", "", "", "a b\t\n\x00")
}

// TestScheme: the bytes ahead of the first ':', whichever they are, if there are any, and no '/', '?' or '#'.
func TestScheme(t *testing.T) {
	for _, s := range []string{"a", "A", "1", "http", "+", "-.", "_", " ", "\t\n", "é", "\xff", "\x00", "%", "@", "[", "\\", ".", "..", "..."} {
		splits(t, s, "", "", s)
		splits(t, s+":", s+":")
		splits(t, s+":b", s+":", "", "b")
		splits(t, s+"::", s+":", "", ":")
		splits(t, s+":b:c", s+":", "", "b:c")
		splits(t, s+":/b", s+":", "", "/b")
		splits(t, s+"://b", s+":", "//b")
		splits(t, s+":?b", s+":", "", "", "?b")
		splits(t, s+":#b", s+":", "", "", "", "#b")
		splits(t, s+"://:?:#:", s+":", "//:", "", "?:", "#:")
	}
	for _, s := range []string{":", "::", ":b", ":b:c", ":a:", ":/b", "://b", ":///"} { // nothing ahead of it
		splits(t, s, "", "", s)
		splits(t, s+"?a:b#c:d", "", "", s, "?a:b", "#c:d")
	}
	for _, s := range []string{"/:", "/a:b", "a/:b", "a/b:c", "a/b:c:d", "/:a:", "./a:b", "/://"} { // behind a '/'
		splits(t, s, "", "", s)
	}
	for _, s := range []string{"//:", "//a:", "//a:1", "//:a:b", "//::"} {
		splits(t, s, "", s)
		splits(t, s+"/a:b", "", s, "/a:b")
	}
	for _, s := range []string{"?:", "?a:b", "?a:b:c", "?:/", "?://a"} {
		splits(t, s, "", "", "", s)
		splits(t, "a"+s, "", "", "a", s)
	}
	for _, s := range []string{"#:", "#a:b", "#a:b:c", "#:/?", "#://a"} {
		splits(t, s, "", "", "", "", s)
		splits(t, "a"+s, "", "", "a", "", s)
	}
}

// TestAuthority: '//' where the rest begins, with or without anything behind it.
func TestAuthority(t *testing.T) {
	for _, scheme := range []string{"", "a:", "1:"} {
		for _, s := range []string{"//", "//a", "//a:b@c", "//:", "//.", "//..", "// ", "//\xff\x00", "//é", "//%2f"} {
			splits(t, scheme+s, scheme, s)
			splits(t, scheme+s+"/", scheme, s, "/")
			splits(t, scheme+s+"//", scheme, s, "//")
			splits(t, scheme+s+"/a//b", scheme, s, "/a//b")
			splits(t, scheme+s+"?", scheme, s, "", "?")
			splits(t, scheme+s+"?//b/", scheme, s, "", "?//b/")
			splits(t, scheme+s+"#", scheme, s, "", "", "#")
			splits(t, scheme+s+"#//b/?", scheme, s, "", "", "#//b/?")
		}
		for _, s := range []string{"/", "/a", "a//b", "a//", "/a//b", ".//a", "a/", "/.//a"} { // where it does not
			splits(t, scheme+s, scheme, "", s)
		}
		splits(t, scheme+"?//a", scheme, "", "", "?//a")
		splits(t, scheme+"#//a", scheme, "", "", "", "#//a")
		splits(t, scheme+"///", scheme, "//", "/")
		splits(t, scheme+"////", scheme, "//", "//")
	}
}

// TestQuery: the query ends at the first '#', the fragment nowhere.
func TestQuery(t *testing.T) {
	for _, front := range [][3]string{{}, {"a:"}, {"", "//a"}, {"", "", "a"}, {"a:", "//b", "/c"}, {"", "", "/"}, {"a:", "//"}} {
		s := strings.Join(front[:], "")
		for _, q := range []string{"", "?", "?a", "??", "?a?b", "?/", "?//a", "?a:b", "?.", "?../a", "? ", "?\xff\x00", "?\n"} {
			splits(t, s+q, front[0], front[1], front[2], q)
			for _, f := range []string{"#", "#a", "##", "#a#b", "#?", "#?a", "#a?b#c?d", "#/", "#//a", "#a:b", "#..", "#\xff\x00", "#\n"} {
				splits(t, s+q+f, front[0], front[1], front[2], q, f)
			}
		}
	}
}

// TestParts puts parts together, each there and not there, in every combination.
func TestParts(t *testing.T) {
	for _, scheme := range []string{"", "a:", "http:", ".:", "\xff:"} {
		for _, authority := range []string{"", "//", "//a", "//a:1", "//a.b"} {
			for _, path := range []string{"", "/", "/a", "/a/b", "/a//b:c/", "a", "a/b", ".", "../", ":", ":a", "/:"} {
				if authority != "" && path != "" && path[0] != '/' {
					continue // it would belong to the authority
				}
				for _, query := range []string{"", "?", "?a", "?a?b:c/d"} {
					for _, fragment := range []string{"", "#", "#a", "#a#b?c:/d"} {
						splits(t, scheme+authority+path+query+fragment, scheme, authority, path, query, fragment)
					}
				}
			}
		}
	}
}

// all are all texts of up to so many of these letters.
func all(letters string, most int) []string {
	l := []string{""}
	for from, n := 0, 0; n < most; n++ {
		to := len(l)
		for _, s := range l[from:to] {
			for i := range len(letters) {
				l = append(l, s+letters[i:i+1])
			}
		}
		from = to
	}
	return l
}

func TestSplitAllShort(t *testing.T) {
	for _, s := range all(":/?#a", 7) {
		tellsParts(t, s)
	}
}

// samples are references of all kinds.
func samples() []string {
	return []string{
		"", "http://a/b/c/d;p?q", "http://a/b?c#d", "a:b", "a:", "x://", "//", "//a", "//a/b", "//a?b", "/", "/a/b", "a", "a/b", "a/b/", "?", "?a", "#", "#a", "?a#b", "../a", "./a/../b/.", "/../a/./b/..", "a/..//b", ":", ":a", "/a:b", "a:/b/../c?d#e", "a?b#c", "a//b", "x:a/b#c",
	}
}

// TestEachByte puts every byte at each place of a reference, between its bytes and for them.
func TestEachByte(t *testing.T) {
	for _, s := range samples() {
		for at := range len(s) + 1 {
			for i := range 256 {
				c := string([]byte{byte(i)})
				for _, x := range []string{s[:at] + c + s[at:], s[:at] + c + s[min(at+1, len(s)):]} {
					tellsParts(t, x)
					tells(t, "http://a/b/c?d#e", x)
					tells(t, x, "g/../h")
				}
			}
		}
	}
}

// P1002

// TestExample is the chapter's.
func TestExample(t *testing.T) {
	resolves(t, "http://a/b/c/d", "../g", "http://a/b/g")
}

// bases are some of all kinds, with what they have ahead of the path, the path, what a path that does not begin with '/' is laid behind, and the query.
func bases() map[string][4]string {
	return map[string][4]string{
		"":                         {},
		"http://a/b/c/d;p?q":       {"http://a", "/b/c/d;p", "/b/c/", "?q"},
		"http://a/b/c/d;p?q#f":     {"http://a", "/b/c/d;p", "/b/c/", "?q"},
		"http://a/b/c/?q/r#s/t":    {"http://a", "/b/c/", "/b/c/", "?q/r"},
		"http://a":                 {"http://a", "", "/", ""}, // an authority and an empty path
		"http://a?q":               {"http://a", "", "/", "?q"},
		"http://a?#f":              {"http://a", "", "/", "?"},
		"http://a#f/g":             {"http://a", "", "/", ""},
		"http://":                  {"http://", "", "/", ""},
		"//":                       {"//", "", "/", ""},
		"//a":                      {"//a", "", "/", ""},
		"//a/":                     {"//a", "/", "/", ""},
		"//a/b#c":                  {"//a", "/b", "/", ""},
		"x:":                       {"x:", "", "", ""}, // no '/' in the path
		"x:#f":                     {"x:", "", "", ""},
		"x:?q/r":                   {"x:", "", "", "?q/r"},
		"x:y":                      {"x:", "y", "", ""},
		"x:y:z?q#f":                {"x:", "y:z", "", "?q"},
		"y":                        {"", "y", "", ""},
		"..":                       {"", "..", "", ""},
		"?q":                       {"", "", "", "?q"},
		"#f":                       {},
		"x:y/z":                    {"x:", "y/z", "y/", ""},
		"x:/":                      {"x:", "/", "/", ""},
		"/":                        {"", "/", "/", ""},
		"y/z?q":                    {"", "y/z", "y/", "?q"},
		"y//z":                     {"", "y//z", "y//", ""},
		"http://a/b/../c/./d?q":    {"http://a", "/b/../c/./d", "/b/../c/./", "?q"}, // dots of its own
		"http://a/b/.":             {"http://a", "/b/.", "/b/", ""},
		"http://a/b/..":            {"http://a", "/b/..", "/b/", ""},
		"../../y/..?q":             {"", "../../y/..", "../../y/", "?q"},
		"x:./y":                    {"x:", "./y", "./", ""},
		"\xff:\x00/\xc3/\n?\xa9#é": {"\xff:", "\x00/\xc3/\n", "\x00/\xc3/", "?\xa9"},
	}
}

// ends are queries with fragments.
func ends() [][2]string {
	var l [][2]string
	for _, q := range []string{"", "?", "?y", "?y/../z", "??", "?a:b", "?\xff"} {
		for _, f := range []string{"", "#", "#s", "#s/../t", "##", "#?", "#\xff"} {
			l = append(l, [2]string{q, f})
		}
	}
	return l
}

// ups are paths that begin with '/', and what they are without dots.
func ups() map[string]string {
	return map[string]string{
		"/": "/", "/g": "/g", "/g/h": "/g/h", "/g/": "/g/", "//": "//", "/g//h": "/g//h", "/:": "/:",
		"/.": "/", "/./": "/", "/./g": "/g", "/g/.": "/g/", "/g/./": "/g/", "/g/./h": "/g/h", "/././.": "/", "/./././g": "/g", "/g/././h/./.": "/g/h/",
		"/..": "/", "/../": "/", "/../g": "/g", "/g/..": "/", "/g/../": "/", "/g/../h": "/h", "/g/h/..": "/g/", "/g/h/../": "/g/", "/g/h/../i": "/g/i", "/g/h/../..": "/", "/g/h/i/../../j": "/g/j",
		"/../..": "/", "/../../../g": "/g", "/g/../../../h": "/h", "/g/h/../../../../i/": "/i/", "/g/../..": "/", "/g/../h/../i": "/i", "/.././../g": "/g", "/g/./../h": "/h", "/g/.././h": "/h", "/g/h/./../.": "/g/",
		"/...": "/...", "/.../g": "/.../g", "/g/...": "/g/...", "/.a": "/.a", "/a.": "/a.", "/..a": "/..a", "/a..": "/a..", "/.a/a./..a/a..": "/.a/a./..a/a..", "/. ": "/. ", "/ .": "/ .", "/.. /x": "/.. /x", "/..\x00": "/..\x00", "/.\x00": "/.\x00", "/a/.../../b": "/a/b", "/%2e": "/%2e", "/%2e%2e/g": "/%2e%2e/g", "/.;/g": "/.;/g", "/..:": "/..:",
		"//.": "//", "//..": "/", "//../g": "/g", "/g//..": "/g/", "/g//../h": "/g/h", "/g//../..": "/", "/g///../../h": "/g/h", "/..//g": "//g", "/.//g": "//g", "/.//": "//", "/g/..//h": "//h",
	}
}

// TestOwnScheme: a reference with a scheme stands alone, but without dots.
func TestOwnScheme(t *testing.T) {
	for base := range bases() {
		for _, x := range ends() {
			for from, to := range ups() {
				if !strings.HasPrefix(from, "//") {
					resolves(t, base, "g:"+from+x[0]+x[1], "g:"+to+x[0]+x[1])
				}
				resolves(t, base, "g://h"+from+x[0]+x[1], "g://h"+to+x[0]+x[1])
				resolves(t, base, "http://"+from+x[0]+x[1], "http://"+to+x[0]+x[1])
			}
			for from, to := range map[string]string{"g:": "g:", "g://": "g://", "g:h": "g:h", "g:h:i": "g:h:i", "http:g": "http:g", "x:y": "x:y", "g://h": "g://h", "g:.": "g:", "g:..": "g:", "g:./h": "g:h", "g:../h": "g:h", "g:h/..": "g:/", "g:h/../i": "g:/i", "g:h/i/../j": "g:h/j", "..:.": "..:", ".:../g": ".:g"} {
				resolves(t, base, from+x[0]+x[1], to+x[0]+x[1])
			}
		}
	}
}

// TestOwnAuthority: a reference with an authority takes the base's scheme alone.
func TestOwnAuthority(t *testing.T) {
	for base := range bases() {
		scheme := split(base)[0]
		for _, x := range ends() {
			for _, a := range []string{"//", "//g", "//..", "//.", "//g:1", "//:"} {
				resolves(t, base, a+x[0]+x[1], scheme+a+x[0]+x[1])
				for from, to := range ups() {
					resolves(t, base, a+from+x[0]+x[1], scheme+a+to+x[0]+x[1])
				}
			}
		}
	}
}

// TestNoPath: a reference without a path has the base's as it is, its dots too; and the base's query, if it has none itself, not if it has one with nothing behind its mark.
func TestNoPath(t *testing.T) {
	for base, b := range bases() {
		resolves(t, base, "", b[0]+b[1]+b[3])
		for _, x := range ends() {
			if x[0] == "" {
				resolves(t, base, x[1], b[0]+b[1]+b[3]+x[1])
			} else {
				resolves(t, base, x[0]+x[1], b[0]+b[1]+x[0]+x[1])
			}
		}
	}
}

// TestRooted: a reference whose path begins with '/' has it for the base's.
func TestRooted(t *testing.T) {
	for base, b := range bases() {
		for _, x := range ends() {
			for from, to := range ups() {
				if !strings.HasPrefix(from, "//") {
					resolves(t, base, from+x[0]+x[1], b[0]+to+x[0]+x[1])
				}
			}
		}
	}
}

// TestMerged: a reference whose path begins with anything else has it behind the base's last '/'.
func TestMerged(t *testing.T) {
	for base, b := range bases() {
		for _, x := range ends() {
			for _, p := range []string{"g", "g/", "g/h", "g//h", ".", "./", "./g", "g/.", "..", "../", "../g", "g/..", "g/../h", "../..", "../../g", "../../../../../g", "...", ".g", "g.", "..g", "g..", "./../g", "./g/.", ":g", ":", "./g:h", ";x", "g;x=1/../y", " ", "\x00", "\xff", "..//g", ".//g", "../.", ".././g/"} {
				resolves(t, base, p+x[0]+x[1], b[0]+dotless(b[2]+p)+x[0]+x[1])
			}
		}
	}
	for base, want := range map[string]string{
		"http://a/b/c/d": "http://a/b/g", "http://a/b/c/": "http://a/b/g", "http://a/b/": "http://a/g", "http://a/b": "http://a/g", "http://a/": "http://a/g", "http://a": "http://a/g", "http://a?/b/c/d": "http://a/g", "http://a#/b/c/d": "http://a/g", "http://": "http:///g",
		"x:": "x:g", "x:y": "x:g", "x:y/z": "x:/g", "x:y/z/": "x:y/g", "y": "g", "": "g", "y/z": "/g", "/y/z": "/g", "?/y/z": "g", "#/y/z": "g", "http://a/b/../c/d": "http://a/g", "http://a/b/c/../d/e": "http://a/b/g",
	} {
		resolves(t, base, "../g", want)
	}
	for base, want := range map[string]string{"a": "b", "": "b", "a/": "a/b", "a/c": "a/b", "x:": "x:b", "x:c": "x:b", "x:c:d": "x:b", "//a": "//a/b", "//a/c": "//a/b", "//": "///b", "a?c/d": "b", "a#c/d": "b", "..": "b", "../": "b", "./": "b", "c/../": "/b"} {
		resolves(t, base, "b", want)
	}
}

// TestDots goes over what paths without dots are, of references that a base has nothing to give to.
func TestDots(t *testing.T) {
	for from, to := range map[string]string{
		"": "", "g": "g", ".": "", "..": "", "./": "", "../": "", "./.": "", "../..": "", "./..": "", "../.": "", "../../": "", "./g": "g", "../g": "g", "../../g": "g", "./../g": "g", ".././g": "g", "../../../../g/": "g/",
		"g/.": "g/", "g/..": "/", "g/./": "g/", "g/../": "/", "g/./h": "g/h", "g/../h": "/h", "g/../../h": "/h", "g/../../../h/": "/h/", "g/h/..": "g/", "g/h/../i": "g/i", "g/h/../../i": "/i", "g/h/../../../i": "/i", "g/..//h": "//h", "g//..": "g/", "g//../h": "g/h", "..//g": "/g", ".//g": "/g", ".///g": "//g",
		"...": "...", "....": "....", ".../g": ".../g", ".g": ".g", "..g": "..g", "g.": "g.", "g..": "g..", ".g/..": "/", "../.g/..g": ".g/..g", ".../..": "/", ". ": ". ", "..\x00": "..\x00", ".\x00/..\x00": ".\x00/..\x00", "\x00.": "\x00.",
	} {
		resolves(t, "", "x:"+from, "x:"+to)
		resolves(t, "x:", "x:"+from+"?a/../b#c/../d", "x:"+to+"?a/../b#c/../d")
	}
}

// TestDotsAll goes through all short paths, and what there is none of in an answer.
func TestDotsAll(t *testing.T) {
	for _, s := range all("./a", 9) {
		got := iri.Resolve("", "x:y/"+s)
		if want := "x:" + dotless("y/"+s); got != want {
			t.Fatalf("P1002: %q: %q, not %q", s, got, want)
		}
		if l := strings.Split(got[2:], "/"); slices.Contains(l, ".") || slices.Contains(l, "..") {
			t.Fatalf("P1002: %q: %q", s, got)
		}
		if again := iri.Resolve("", "x:/"+s); iri.Resolve("", again) != again && !strings.HasPrefix(again, "x://") {
			t.Fatalf("P1002: %q: %q is not the same again", s, again)
		}
	}
}

// TestFragment: it is the reference's, never the base's.
func TestFragment(t *testing.T) {
	for _, s := range samples() {
		base := strings.SplitN(s, "#", 2)[0]
		for _, ref := range samples() {
			want := iri.Resolve(base, ref)
			for _, f := range []string{"#", "#f", "#/f/", "#?f", "#:f", "##"} {
				resolves(t, base+f, ref, want)
			}
			if _, f, ok := strings.Cut(ref, "#"); ok && !strings.HasSuffix(want, "#"+f) || !ok && strings.Contains(want, "#") {
				t.Errorf("P1002: %q and %q: %q", base, ref, want)
			}
		}
	}
}

func TestResolveAllShort(t *testing.T) {
	l := all(":/?#.a", 3)
	for _, base := range l {
		for _, ref := range l {
			tells(t, base, ref)
		}
	}
	for _, s := range all(":/?#.a", 6) {
		tells(t, "x://b/c/d?e#f", s)
		tells(t, s, "../g")
	}
}

// TestRfc has the cases of RFC 3986, 5.4.
func TestRfc(t *testing.T) {
	for ref, want := range map[string]string{
		"g:h": "g:h", "g": "http://a/b/c/g", "./g": "http://a/b/c/g", "g/": "http://a/b/c/g/", "/g": "http://a/g", "//g": "http://g", "?y": "http://a/b/c/d;p?y", "g?y": "http://a/b/c/g?y", "#s": "http://a/b/c/d;p?q#s", "g#s": "http://a/b/c/g#s", "g?y#s": "http://a/b/c/g?y#s", ";x": "http://a/b/c/;x", "g;x": "http://a/b/c/g;x", "g;x?y#s": "http://a/b/c/g;x?y#s", "": "http://a/b/c/d;p?q",
		".": "http://a/b/c/", "./": "http://a/b/c/", "..": "http://a/b/", "../": "http://a/b/", "../g": "http://a/b/g", "../..": "http://a/", "../../": "http://a/", "../../g": "http://a/g", "../../../g": "http://a/g", "../../../../g": "http://a/g", "/./g": "http://a/g", "/../g": "http://a/g", "g.": "http://a/b/c/g.", ".g": "http://a/b/c/.g", "g..": "http://a/b/c/g..", "..g": "http://a/b/c/..g",
		"./../g": "http://a/b/g", "./g/.": "http://a/b/c/g/", "g/./h": "http://a/b/c/g/h", "g/../h": "http://a/b/c/h", "g;x=1/./y": "http://a/b/c/g;x=1/y", "g;x=1/../y": "http://a/b/c/y", "g?y/./x": "http://a/b/c/g?y/./x", "g?y/../x": "http://a/b/c/g?y/../x", "g#s/./x": "http://a/b/c/g#s/./x", "g#s/../x": "http://a/b/c/g#s/../x", "http:g": "http:g",
	} {
		resolves(t, "http://a/b/c/d;p?q", ref, want)
	}
}

// P1003

// TestNoBase: a reference with a scheme is the same of any base.
func TestNoBase(t *testing.T) {
	var l []string
	for _, s := range samples() {
		l = append(l, "g:"+s, "http:"+s, "\xff:"+s)
	}
	for _, ref := range append(l, "x:", "x:a/../b", "x://a/./b?c#d", "x:.", "x:?", "x:#", "x://") {
		alone := iri.Resolve("", ref)
		for base := range bases() {
			if got := iri.Resolve(base, ref); got != alone {
				t.Errorf("P1003: %q and %q: %q, not %q", base, ref, got, alone)
			}
		}
		for _, base := range l {
			if got := iri.Resolve(base, ref); got != alone {
				t.Errorf("P1003: %q and %q: %q, not %q", base, ref, got, alone)
			}
		}
	}
}

// Thrown texts

// die throws numbers.
type die uint64

func (d *die) of(k int) int {
	*d = *d*6364136223846793005 + 1442695040888963407
	return int(uint64(*d) >> 33 % uint64(k))
}

// text throws one of marks and bytes.
func (d *die) text(most int) string {
	var b []byte
	for range d.of(most + 1) {
		switch d.of(10) {
		case 0:
			b = append(b, byte(d.of(256)))
		case 1:
			b = append(b, "/../"...)
		case 2:
			b = append(b, "//"...)
		case 3:
			b = append(b, ":?#"[d.of(3)])
		case 4, 5:
			b = append(b, '.')
		case 6, 7:
			b = append(b, '/')
		default:
			b = append(b, "ab"[d.of(2)])
		}
	}
	return string(b)
}

func TestThrown(t *testing.T) {
	d := die(1002)
	for range 100000 {
		base, ref := d.text(20), d.text(30)
		if d.of(2) == 0 {
			base = "http://a/b/c/" + base
		}
		tellsParts(t, ref)
		tells(t, base, ref)
	}
}

// P1 to P7

// TestLong (P1): texts that are long, of which nothing is gone over again and again.
func TestLong(t *testing.T) {
	const n = 1 << 20
	many := func(s string) string { return strings.Repeat(s, n) }
	for _, s := range []string{"a", "/a", "//", "..", "é", "\xff", "x/"} {
		if p := iri.Split("?" + many(s)); p != [5]string{3: "?" + many(s)} {
			t.Errorf("P1001: ? and many %q: %s", s, show(p))
		}
		if p := iri.Split("#" + many(s)); p != [5]string{4: "#" + many(s)} {
			t.Errorf("P1001: # and many %q: %s", s, show(p))
		}
	}
	splits(t, many("a")+":"+many(":"), many("a")+":", "", many(":"))
	splits(t, "//"+many("a")+"/"+many("a"), "", "//"+many("a"), "/"+many("a"))
	resolves(t, "http://a", many("../")+"g", "http://a/g")
	resolves(t, "http://a", many("./")+"g", "http://a/g")
	resolves(t, "http://a", many("/..")+"/g", "http://a/g")
	resolves(t, "http://a", many("/.")+"/g", "http://a/g")
	resolves(t, "http://a"+many("/b"), many("../")+"g", "http://a/g")
	resolves(t, "http://a"+many("/b"), "g", "http://a"+strings.TrimSuffix(many("/b"), "b")+"g")
	resolves(t, "http://a/", many("b/../")+"g", "http://a/g")
	resolves(t, "x:", many("a")+many("/.."), "x:/")
	resolves(t, "x:"+many("a"), "b", "x:b")
	resolves(t, "x:", "g"+many("/.")+many("/b"), "x:g"+many("/b"))
}

// TestOwnMemory (P2): texts that were made of bytes that change later.
func TestOwnMemory(t *testing.T) {
	view := func(b []byte) string { return unsafe.String(unsafe.SliceData(b), len(b)) }
	for _, s := range append(samples(), "abc", "//abc", "?abc", "#abc", "abc:", "/abc", "abc/def") {
		want := split(s)
		b := []byte(s)
		got := iri.Split(view(b))
		if string(b) != s {
			t.Errorf("P2: %q is changed: %q", s, b)
		}
		clear(b)
		if got != want {
			t.Errorf("P2: %q is kept: %q", s, got)
		}
		for _, ref := range append(samples(), "abc", "//abc", "?abc", "#abc", "abc:", "/abc", "abc/def") {
			want := resolve(s, ref)
			b, r := []byte(s), []byte(ref)
			got := iri.Resolve(view(b), view(r))
			if string(b) != s || string(r) != ref {
				t.Errorf("P2: %q or %q is changed: %q, %q", s, ref, b, r)
			}
			clear(b)
			clear(r)
			if got != want {
				t.Errorf("P2: %q or %q is kept: %q", s, ref, got)
			}
		}
	}
}

// TestSideBySide (P3, P7): the same calls answer the same, many at once too.
func TestSideBySide(t *testing.T) {
	var w sync.WaitGroup
	for range 8 {
		w.Go(func() {
			for range 20 {
				for _, base := range samples() {
					tellsParts(t, base)
					for _, ref := range samples() {
						tells(t, base, ref)
					}
				}
			}
		})
	}
	w.Wait()
}

func FuzzSplit(f *testing.F) {
	for _, s := range samples() {
		f.Add(s)
	}
	f.Fuzz(tellsParts)
}

func FuzzResolve(f *testing.F) {
	for _, s := range samples() {
		f.Add("http://a/b/c?d#e", s)
		f.Add(s, "../g")
	}
	f.Fuzz(tells)
}
