package hexa

import (
	"math/bits"

	"triad/api"
	"triad/code"
)

// most is the greatest number.
const most = 1 << 40

// beyond, put behind a key's start, is above all keys that start so: a number's first byte is far below it.
const beyond = "\xff"

// order says which of a triple's numbers comes first, second and third.
type order [3]int

var orders = [6]order{{0, 1, 2}, {0, 2, 1}, {1, 0, 2}, {1, 2, 0}, {2, 0, 1}, {2, 1, 0}}

// of is a triple in an order.
func (o order) of(t [3]int) [3]int { return [3]int{t[o[0]], t[o[1]], t[o[2]]} }

// back is the triple that is so in an order.
func (o order) back(n [3]int) [3]int {
	var t [3]int
	for i, at := range o {
		t[at] = n[i]
	}
	return t
}

// ahead is whether an order has all numbers that are not 0 ahead of the others: then so many from its front are all.
func (o order) ahead(t [3]int) bool {
	var front [3]int
	n := o.of(t)
	copy(front[:], n[:given(t)])
	return front == n
}

// start is how the keys of an order start that have a triple's numbers, where they are not 0, and these are ahead; of
// a whole triple it is its key.
//
// A number is written highest byte first, without noughts in front, and behind how many bytes these are: so keys stand
// as their numbers do, and are short where these are low. A Commit has few pages then.
func (o order) start(t [3]int) string {
	var b []byte
	n := o.of(t)
	for _, x := range n[:given(t)] {
		size := (bits.Len(uint(x)) + 7) / 8
		b = code.Byte(b, size)
		for k := size - 1; k >= 0; k-- {
			b = code.Byte(b, x>>(8*k))
		}
	}
	return string(b)
}

// numbers are those of a key, in its order.
func numbers(key string) ([3]int, api.Errno) {
	var n [3]int
	r := code.New([]byte(key))
	for i := range n {
		for range r.Byte() {
			n[i] = n[i]<<8 | r.Byte()
		}
	}
	return n, r.End()
}

// given is how many numbers are not 0.
func given(t [3]int) int {
	n := 0
	for _, x := range t {
		if x != 0 {
			n++
		}
	}
	return n
}
