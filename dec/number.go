package dec

import (
	"math"

	"triad/api"
)

// A number, on its way, is complex: its digits, and, as the imaginary part, how many of them stand behind the point.
//
// Digits that are too many to be told whole stay far too many, whatever is done with them, and do not wrap round as
// integers would: so it is enough to ask at the end whether a number is over.

const (
	most  = 999999999999999 // of api.MaxDigit digits
	whole = 1 << 53         // below it a float tells each digit
)

// is tells whether it is a decimal.
func is(d api.Dec) bool {
	return -most <= d.M && d.M <= most && 0 <= d.Scale && d.Scale <= api.MaxScale && (d.Scale == 0 || d.M%10 != 0)
}

// of is a decimal's number. What is no decimal has digits without end, and is over with all that is made of it.
func of(d api.Dec) complex128 {
	if !is(d) {
		return complex(math.Inf(1), 0)
	}
	return complex(float64(d.M), float64(d.Scale))
}

// made is a short number.
func made(m uint64, scale int) complex128 { return short(complex(float64(m), float64(scale))) }

// decimal is the number's. (It may be NaN, too, which is not at most anything.)
func decimal(z complex128) (api.Dec, bool) {
	z = short(z)
	if math.Abs(real(z)) <= most && imag(z) <= api.MaxScale {
		return api.Dec{M: int(real(z)), Scale: int(imag(z))}, true
	}
	return api.Dec{}, false
}

// signed is decimal of a number that is not below nought, or, if that is said, of it with the other sign.
func signed(z complex128, below bool) (api.Dec, bool) {
	if below {
		z = complex(-real(z), imag(z))
	}
	return decimal(z)
}

// short is a number without the noughts that end it behind the point. Digits that are not told whole may seem to end
// with one: they stay, for they are over.
func short(z complex128) complex128 {
again:
	if imag(z) > 0 && math.Abs(real(z)) < whole && divides(z, 10) {
		z = complex(real(z)/10, imag(z)-1)
		goto again
	}
	return z
}

// read lays a row of digits behind a number's, each of which moves its point by a step: 0 or 1i.
func read(z complex128, row string, step complex128) complex128 {
	for i := range len(row) {
		z = complex(real(z)*10, imag(z)) + complex(float64(row[i]-'0'), 0) + step
	}
	return z
}

// sum is that of short numbers: with unlike points it ends with the last digit of one of them, so what is not told
// whole is over.
func sum(x, y complex128) complex128 {
	x, y = level(x, y)
	return x + complex(real(y), 0)
}

// level has both numbers' points where that one's is that has more digits behind it.
func level(x, y complex128) (complex128, complex128) {
	scale := max(imag(x), imag(y))
	return lifted(x, scale), lifted(y, scale)
}

// lifted is a number with so many digits behind the point, no fewer than it has.
func lifted(z complex128, scale float64) complex128 {
	return complex(real(z)*math.Pow10(int(scale-imag(z))), scale)
}

func divides(z complex128, factor float64) bool { return math.Mod(real(z), factor) == 0 }

func either(x, y complex128, factor float64) bool { return divides(x, factor) || divides(y, factor) }

// without takes a factor from the first of both that has it.
func without(x, y complex128, factor float64) (complex128, complex128) {
	if divides(x, factor) {
		return complex(real(x)/factor, imag(x)), y
	}
	return x, complex(real(y)/factor, imag(y))
}
