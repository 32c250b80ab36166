package value

import (
	"strings"

	"triad/api"
	"triad/dec"
)

// A term's weight is complex. A number's is as dec has it on its way: its digits, and, as the imaginary part, how many of
// them stand behind the point. What has no point has there, below nought, of which kind it is, and as the real part what
// its truth hangs on.
const (
	truth   = -1 - iota // true or false: 1 or 0
	plain               // a plain text: how many bytes it has
	spoken              // a literal with a language
	strange             // any other literal
	node                // no literal
)

func weigh(t api.Term) complex128 {
	if t.Kind != api.Literal {
		return complex(0, node)
	}
	switch t.Type {
	case api.XInt:
		if strings.Contains(t.S, ".") {
			goto other
		}
		fallthrough
	case api.XDec:
		d, fits := dec.Parse(t.S)
		if !fits {
			goto other
		}
		return complex(float64(d.M), float64(d.Scale))
	case api.XBool:
		switch t.S {
		case "true":
			return complex(1, truth)
		case "false":
			return complex(0, truth)
		}
	case "":
		if t.Lang != "" {
			return complex(0, spoken)
		}
		return complex(float64(len(t.S)), plain)
	}
other:
	return complex(0, strange)
}

// numbers tells whether both weights are numbers'.
func numbers(x, y complex128) bool { return min(imag(x), imag(y)) >= 0 }

// decimal is a number's: its weight has it whole, as it is of api.MaxDigit digits.
func decimal(z complex128) api.Dec { return api.Dec{M: int(real(z)), Scale: int(imag(z))} }
