// Package code: bytes. See doc/01-code.md.
package code

import (
	"triad/api"
)

// The bytes of a number, those of the length ahead of a text, and the greatest length that fits in them.
const (
	wide    = 8
	head    = 2
	longest = 1<<(8*head) - 1
)

// Reader reads; its first error stays.
type Reader struct {
	left []byte
	err  api.Errno
}

// New copies b: the one who handed it in may go on changing it.
func New(b []byte) *Reader { return &Reader{left: behind(b, 0)} }

func (r *Reader) Byte() int { return number(r.take, 1) }

func (r *Reader) Int() int { return number(r.take, wide) }

// Text needs no look at the error between its two parts: where the length lacks, take answers nothing more.
func (r *Reader) Text() string { return string(r.take(number(r.take, head))) }

func (r *Reader) Fail(e api.Errno) {
	if r.err == api.OK {
		r.err = e
	}
}

// End does not keep ErrMore: what is left may still be read.
func (r *Reader) End() api.Errno {
	if r.err == api.OK && len(r.left) > 0 {
		return api.ErrMore
	}
	return r.err
}

// take cuts the next n bytes off; nothing, where there is an error, or bytes lack.
func (r *Reader) take(n int) []byte {
	var part []byte
	if r.err != api.OK {
		goto out
	}
	if n > len(r.left) {
		r.Fail(api.ErrCut)
		goto out
	}
	part, r.left = r.left[:n], r.left[n:]
out:
	return part
}

// number is that of the next n bytes, wherever take has them from.
func number(take func(n int) []byte, n int) int {
	var v uint64
	for i, c := range take(n) {
		v |= uint64(c) << (8 * i)
	}
	return int(v)
}

func Byte(b []byte, v int) []byte { return little(behind(b, 1), v, 1) }

func Int(b []byte, v int) []byte { return little(behind(b, wide), v, wide) }

func Text(b []byte, s string) []byte {
	s = s[:min(len(s), longest)]
	return append(little(behind(b, head+len(s)), len(s), head), s...)
}

// behind copies b, with room for n bytes more: appending to b itself might write into spare room that is not ours.
func behind(b []byte, n int) []byte {
	return append(make([]byte, 0, len(b)+n), b...)
}

// little appends the lowest n bytes of v, the lowest first.
func little(b []byte, v, n int) []byte {
	for i := range n {
		b = append(b, byte(v>>(8*i)))
	}
	return b
}
