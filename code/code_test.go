package code_test

import (
	"bytes"
	"math"
	"strings"
	"sync"
	"testing"

	"triad/api"
	"triad/code"
)

// numbers are those at the ends, those where a byte more is needed, and some between.
var numbers = []int{
	0, 1, -1, 2, -2, 127, 128, -128, -129, 255, 256, 257, -255, -256, -257,
	65535, 65536, -65536, 1<<31 - 1, 1 << 31, -1 << 31, 1<<32 - 1, 1 << 32,
	0x0102030405060708, -0x0102030405060708, math.MaxInt - 1, math.MaxInt, math.MinInt, math.MinInt + 1,
}

// texts are short ones, ones that are no UTF-8, and ones whose length needs its higher byte.
var texts = []string{
	"", "a", "ab", "\x00", "\xff\xfe", "ä€😀", "\xe2\x82", "line\nline",
	strings.Repeat("x", 255), strings.Repeat("y", 256), strings.Repeat("z", 257),
	strings.Repeat("v", 65534), strings.Repeat("w", 65535),
}

// same tells a fault where two lists of bytes differ.
func same(t *testing.T, what string, got []byte, want string) {
	t.Helper()
	if string(got) != want {
		t.Errorf("%s: got % x, want % x", what, clip(string(got)), clip(want))
	}
}

func clip(s string) string { return s[:min(len(s), 40)] }

// ends tells a fault where a reader's End is another one.
func ends(t *testing.T, what string, r *code.Reader, want api.Errno) {
	t.Helper()
	if got := r.End(); got != want {
		t.Errorf("%s: End: got %v, want %v", what, got, want)
	}
}

// silent tells a fault where a reader that has an error answers more than zero values, or another error then.
func silent(t *testing.T, what string, r *code.Reader, want api.Errno) {
	t.Helper()
	for range 2 {
		if n, b, s := r.Int(), r.Byte(), r.Text(); n != 0 || b != 0 || s != "" {
			t.Errorf("%s: behind the error: %d, %d, %q", what, n, b, clip(s))
		}
		ends(t, what, r, want)
	}
}

// P101

func TestIntBytes(t *testing.T) {
	for n, want := range map[int]string{
		0:                  "\x00\x00\x00\x00\x00\x00\x00\x00",
		1:                  "\x01\x00\x00\x00\x00\x00\x00\x00",
		-1:                 "\xff\xff\xff\xff\xff\xff\xff\xff",
		-2:                 "\xfe\xff\xff\xff\xff\xff\xff\xff",
		256:                "\x00\x01\x00\x00\x00\x00\x00\x00",
		0x0102030405060708: "\x08\x07\x06\x05\x04\x03\x02\x01",
		math.MaxInt:        "\xff\xff\xff\xff\xff\xff\xff\x7f",
		math.MinInt:        "\x00\x00\x00\x00\x00\x00\x00\x80",
	} {
		same(t, "nothing ahead", code.Int(nil, n), want)
		same(t, "bytes ahead", code.Int([]byte("front"), n), "front"+want)
	}
}

func TestByteBytes(t *testing.T) {
	for n, want := range map[int]string{
		0: "\x00", 1: "\x01", 255: "\xff", 256: "\x00", 257: "\x01", 0x1234: "\x34",
		-1: "\xff", -2: "\xfe", -256: "\x00", math.MaxInt: "\xff", math.MinInt: "\x00",
	} {
		same(t, "nothing ahead", code.Byte(nil, n), want)
		same(t, "bytes ahead", code.Byte([]byte("front"), n), "front"+want)
	}
}

func TestTextBytes(t *testing.T) {
	x := strings.Repeat("x", 70000)
	for _, c := range []struct{ s, want string }{
		{"", "\x00\x00"},
		{"ab", "\x02\x00ab"},
		{"\xff\x00", "\x02\x00\xff\x00"},
		{"€", "\x03\x00€"},
		{x[:255], "\xff\x00" + x[:255]},
		{x[:256], "\x00\x01" + x[:256]},
		{x[:65534], "\xfe\xff" + x[:65534]},
		{x[:65535], "\xff\xff" + x[:65535]},
		{x[:65536], "\xff\xff" + x[:65535]},
		{x, "\xff\xff" + x[:65535]},
		{x[:65534] + "€", "\xff\xff" + x[:65534] + "\xe2"},
		{x[:65535] + "y", "\xff\xff" + x[:65535]},
	} {
		same(t, "nothing ahead", code.Text(nil, c.s), c.want)
		same(t, "bytes ahead", code.Text([]byte("front"), c.s), "front"+c.want)
	}
}

// P2: what is handed in and its spare room stay as they are, and no answer stands in them.
func TestWritersOwnMemory(t *testing.T) {
	for name, put := range map[string]func(b []byte) []byte{
		"Int":  func(b []byte) []byte { return code.Int(b, -1) },
		"Byte": func(b []byte) []byte { return code.Byte(b, -1) },
		"Text": func(b []byte) []byte { return code.Text(b, "abc") },
		"none": func(b []byte) []byte { return code.Text(b, "") },
	} {
		room := bytes.Repeat([]byte{7}, 64)
		before := string(room)
		got := put(room[:3])
		full := got[:cap(got)]
		for i := range full {
			full[i] = 9
		}
		same(t, "P2: "+name, room, before)
		again := put(room[:3])
		room[0] = 1
		if again[0] != 7 {
			t.Errorf("P2: %s: the answer shares what was handed in", name)
		}
	}
}

// P102

func TestReaderReads(t *testing.T) {
	r := code.New([]byte("\x05\xfe\xff\xff\xff\xff\xff\xff\xff\x02\x00hi\x00\x00\xff"))
	if b := r.Byte(); b != 5 {
		t.Errorf("Byte: %d", b)
	}
	if n := r.Int(); n != -2 {
		t.Errorf("Int: %d", n)
	}
	if s := r.Text(); s != "hi" {
		t.Errorf("Text: %q", s)
	}
	if s := r.Text(); s != "" {
		t.Errorf("an empty Text: %q", s)
	}
	ends(t, "a byte is left", r, api.ErrMore)
	if b := r.Byte(); b != 255 {
		t.Errorf("the last Byte: %d", b)
	}
	ends(t, "all is read", r, api.OK)
	r.Byte()
	silent(t, "behind the end", r, api.ErrCut)
}

func TestReaderBytes(t *testing.T) {
	for n := range 256 {
		r := code.New([]byte{byte(n)})
		if got := r.Byte(); got != n {
			t.Errorf("Byte: got %d, want %d", got, n)
		}
		ends(t, "one byte", r, api.OK)
	}
}

func TestReaderOfNothing(t *testing.T) {
	for _, b := range [][]byte{nil, {}} {
		ends(t, "nothing is asked", code.New(b), api.OK)
		for name, ask := range map[string]func(r *code.Reader){
			"Int":  func(r *code.Reader) { r.Int() },
			"Byte": func(r *code.Reader) { r.Byte() },
			"Text": func(r *code.Reader) { r.Text() },
		} {
			r := code.New(b)
			ask(r)
			silent(t, name, r, api.ErrCut)
		}
	}
}

func TestReaderCutInt(t *testing.T) {
	for n := range 8 {
		r := code.New(bytes.Repeat([]byte{255}, n))
		if got := r.Int(); got != 0 {
			t.Errorf("Int of %d bytes: %d", n, got)
		}
		silent(t, "a cut number", r, api.ErrCut)
	}
	r := code.New(bytes.Repeat([]byte{255}, 8))
	if got := r.Int(); got != -1 {
		t.Errorf("Int of eight bytes: %d", got)
	}
	ends(t, "eight bytes", r, api.OK)
}

func TestReaderCutText(t *testing.T) {
	for _, b := range []string{
		"", "\x00", "\x01", "\x01\x00", "\x05\x00abcd", "\x00\x01" + strings.Repeat("x", 255),
		"\xff\xff" + strings.Repeat("x", 65534),
	} {
		r := code.New([]byte(b))
		if got := r.Text(); got != "" {
			t.Errorf("Text of % x: %q", clip(b), clip(got))
		}
		silent(t, "a cut text", r, api.ErrCut)
	}
}

// A byte that is left behind a cut one is not answered: the bytes of the number are not given back.
func TestReaderCutStays(t *testing.T) {
	r := code.New([]byte{1, 2, 3})
	r.Int()
	silent(t, "three bytes", r, api.ErrCut)
	r.Fail(api.ErrBad)
	r.Fail(api.OK)
	silent(t, "a Fail behind it", r, api.ErrCut)
}

func TestReaderMore(t *testing.T) {
	r := code.New([]byte{200, 1})
	ends(t, "nothing is read", r, api.ErrMore)
	ends(t, "asked again", r, api.ErrMore)
	if a, b := r.Byte(), r.Byte(); a != 200 || b != 1 {
		t.Errorf("P5: behind ErrMore: %d, %d", a, b)
	}
	ends(t, "all is read", r, api.OK)
}

func TestReaderFail(t *testing.T) {
	for _, e := range []api.Errno{api.ErrArg, api.ErrCut, api.ErrMore, api.ErrBad, api.ErrMiss, -1, 1000} {
		r := code.New(bytes.Repeat([]byte{1}, 40))
		r.Fail(e)
		silent(t, "with bytes left", r, e)
		r.Fail(api.ErrDeep)
		silent(t, "the second Fail", r, e)
		r.Fail(api.OK)
		silent(t, "a Fail with OK", r, e)

		r = code.New(nil)
		r.Fail(e)
		silent(t, "without bytes", r, e)
	}
}

func TestReaderFailOK(t *testing.T) {
	r := code.New([]byte{3, 4})
	r.Fail(api.OK)
	if b := r.Byte(); b != 3 {
		t.Errorf("behind Fail(OK): %d", b)
	}
	ends(t, "a byte is left", r, api.ErrMore)
	r.Fail(api.OK)
	if b := r.Byte(); b != 4 {
		t.Errorf("behind Fail(OK): %d", b)
	}
	ends(t, "all is read", r, api.OK)
	r.Fail(api.ErrBad)
	silent(t, "OK was none", r, api.ErrBad)
}

// P2
func TestReaderOwnMemory(t *testing.T) {
	room := []byte("\x02\x00hi\x07rest")
	before := string(room)
	r := code.New(room[:5])
	if s := r.Text(); s != "hi" {
		t.Errorf("Text: %q", s)
	}
	same(t, "P2: reading changes nothing", room, before)
	room[4] = 8
	if b := r.Byte(); b != 7 {
		t.Errorf("P2: what was handed in is kept: %d", b)
	}
	ends(t, "its spare room is not read", r, api.OK)
}

// P7
func TestReadersSideBySide(t *testing.T) {
	b := code.Text(code.Int(nil, 77), "side")
	r, s := code.New(b), code.New(b)
	if r == s {
		t.Fatal("P7: one reader for two")
	}
	r.Int()
	s.Fail(api.ErrBad)
	if got := r.Text(); got != "side" {
		t.Errorf("P7: %q", got)
	}
	ends(t, "the one", r, api.OK)
	ends(t, "the other", s, api.ErrBad)

	var all sync.WaitGroup
	for range 8 {
		all.Go(func() {
			r := code.New(b)
			if n, s := r.Int(), r.Text(); n != 77 || s != "side" || r.End() != api.OK {
				t.Errorf("P7: side by side: %d, %q", n, s)
			}
		})
	}
	all.Wait()
}

// P103

func TestBackAlone(t *testing.T) {
	for _, n := range numbers {
		r := code.New(code.Int(nil, n))
		if got := r.Int(); got != n {
			t.Errorf("Int: got %d, want %d", got, n)
		}
		ends(t, "a number", r, api.OK)
		r = code.New(code.Byte(nil, n))
		if got := r.Byte(); got != n&255 {
			t.Errorf("Byte: got %d, want %d", got, n&255)
		}
		ends(t, "a byte", r, api.OK)
	}
	for _, s := range texts {
		r := code.New(code.Text(nil, s))
		if got := r.Text(); got != s {
			t.Errorf("Text: got %q, want %q", clip(got), clip(s))
		}
		ends(t, "a text", r, api.OK)
	}
	long := strings.Repeat("abc", 30000)
	r := code.New(code.Byte(code.Text(nil, long), 5))
	if got := r.Text(); got != long[:65535] {
		t.Errorf("a text of %d bytes: %d bytes", len(long), len(got))
	}
	if got := r.Byte(); got != 5 {
		t.Errorf("the byte behind it: %d", got)
	}
	ends(t, "a long text", r, api.OK)
}

func TestBackTogether(t *testing.T) {
	var b []byte
	for i, n := range numbers {
		b = code.Byte(code.Text(code.Int(b, n), texts[i%len(texts)]), n)
	}
	r := code.New(b)
	for i, n := range numbers {
		if got := r.Int(); got != n {
			t.Errorf("Int %d: got %d, want %d", i, got, n)
		}
		if got, want := r.Text(), texts[i%len(texts)]; got != want {
			t.Errorf("Text %d: got %q, want %q", i, clip(got), clip(want))
		}
		if got := r.Byte(); got != n&255 {
			t.Errorf("Byte %d: got %d, want %d", i, got, n&255)
		}
	}
	ends(t, "all of them", r, api.OK)
}

// P1, P3: any bytes, read in any way, end, and the same way twice; a fuzzer may ask for more of it.
func FuzzReader(f *testing.F) {
	f.Add([]byte("\x02\x00hi\x05"), []byte{2, 1, 0})
	f.Add([]byte("\xff\xff"), []byte{2, 2, 3, 4})
	f.Add([]byte{}, []byte{0, 1, 2, 3, 4})
	f.Add(bytes.Repeat([]byte{255}, 100), []byte{0, 1, 4, 0, 3, 0})
	f.Fuzz(func(t *testing.T, b, ways []byte) {
		if got, again := read(b, ways), read(b, ways); got != again {
			t.Errorf("P3: %q, %q", got, again)
		}
	})
}

// read asks a reader of b in those ways, and tells in bytes what it answered.
func read(b, ways []byte) string {
	r := code.New(b)
	var told []byte
	for _, w := range ways {
		switch w % 5 {
		case 0:
			told = code.Int(told, r.Int())
		case 1:
			told = code.Int(told, r.Byte())
		case 2:
			told = code.Text(told, r.Text())
		case 3:
			told = code.Int(told, int(r.End()))
		case 4:
			r.Fail(api.Errno(w / 5))
		}
	}
	return string(code.Int(told, int(r.End())))
}
