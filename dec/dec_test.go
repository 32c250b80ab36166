package dec_test

import (
	"math"
	"math/big"
	"regexp"
	"slices"
	"strconv"
	"strings"
	"sync"
	"testing"
	"unsafe"

	"triad/api"
	"triad/dec"
)

// most is the greatest that a decimal's digits may be.
const most = 999999999999999

func noughts(n int) string { return strings.Repeat("0", n) }

// clip tells a text for a fault.
func clip(s string) string {
	if len(s) > 90 {
		s = s[:60] + ".." + strconv.Itoa(len(s)) + ".." + s[len(s)-10:]
	}
	return strconv.Quote(s)
}

// show tells a decimal for a fault.
func show(d api.Dec) string { return strconv.Itoa(d.M) + "/" + strconv.Itoa(d.Scale) }

// The chapter's own words, of numbers that are fractions.

// power is ten by itself, so often.
func power(n int) *big.Int { return new(big.Int).Exp(big.NewInt(10), big.NewInt(int64(n)), nil) }

// is tells whether it is a decimal.
func is(d api.Dec) bool {
	s := strings.TrimPrefix(strconv.Itoa(d.M), "-")
	return len(s) <= 15 && d.Scale >= 0 && d.Scale <= 6 && (d.Scale == 0 || !strings.HasSuffix(s, "0"))
}

// fraction is a decimal's number.
func fraction(d api.Dec) *big.Rat {
	return new(big.Rat).SetFrac(big.NewInt(int64(d.M)), power(d.Scale))
}

// decimal is the only one of that number: the one with as few digits behind the point as tell it.
func decimal(r *big.Rat) (api.Dec, bool) {
	for scale := range 7 {
		m := new(big.Rat).Mul(r, new(big.Rat).SetInt(power(scale)))
		if !m.IsInt() {
			continue
		}
		if m.Num().CmpAbs(power(15)) >= 0 {
			return api.Dec{}, false
		}
		return api.Dec{M: int(m.Num().Int64()), Scale: scale}, true
	}
	return api.Dec{}, false
}

var form = regexp.MustCompile(`^[+-]?[0-9]+(\.[0-9]+)?$`)

// parse is Parse by these.
func parse(s string) (api.Dec, bool) {
	if !form.MatchString(s) {
		return api.Dec{}, false
	}
	r, there := new(big.Rat).SetString(s)
	if !there {
		return api.Dec{}, false
	}
	return decimal(r)
}

// part is Div by these.
func part(a api.Dec, n int) (api.Dec, bool) {
	if n < 1 {
		return api.Dec{}, false
	}
	m := new(big.Int).Mul(big.NewInt(int64(a.M)), power(6-a.Scale))
	m.Quo(m, big.NewInt(int64(n))) // towards nought
	return decimal(new(big.Rat).SetFrac(m, power(6)))
}

// Faults.

// answers tells a fault where a call answers another decimal.
func answers(t *testing.T, call string, got api.Dec, fits bool, want api.Dec, should bool) {
	t.Helper()
	if got != want || fits != should {
		t.Errorf("P1301: %s: %s %v, not %s %v", call, show(got), fits, show(want), should)
	}
}

// tells is of Parse, and these.
func tells(t *testing.T, s string) {
	t.Helper()
	got, fits := dec.Parse(s)
	want, should := parse(s)
	answers(t, clip(s), got, fits, want, should)
}

// reads is of texts of one decimal.
func reads(t *testing.T, m, scale int, l ...string) {
	t.Helper()
	for _, s := range l {
		got, fits := dec.Parse(s)
		answers(t, clip(s), got, fits, api.Dec{M: m, Scale: scale}, true)
		tells(t, s)
	}
}

// fails is of texts of none.
func fails(t *testing.T, l ...string) {
	t.Helper()
	for _, s := range l {
		got, fits := dec.Parse(s)
		answers(t, clip(s), got, fits, api.Dec{}, false)
		tells(t, s)
	}
}

// prints tells a fault where Print answers another text, or that text is read as another decimal.
func prints(t *testing.T, m, scale int, want string) {
	t.Helper()
	d := api.Dec{M: m, Scale: scale}
	if got := dec.Print(d); got != want {
		t.Errorf("P1301: %s: %s, not %s", show(d), clip(got), clip(want))
	}
	again(t, d)
}

// again tells a fault where what was printed is read as another one.
func again(t *testing.T, d api.Dec) {
	t.Helper()
	s := dec.Print(d)
	if got, fits := dec.Parse(s); got != d || !fits {
		t.Errorf("P1302: %s: %s: %s %v", show(d), clip(s), show(got), fits)
	}
	if want := fraction(d).FloatString(d.Scale); s != want {
		t.Errorf("P1301: %s: %s, not %s", show(d), clip(s), clip(want))
	}
}

// of is a text's decimal by these, so that the tests of numbers don't hang on Parse.
func of(t *testing.T, s string) api.Dec {
	t.Helper()
	d, fits := parse(s)
	if !fits {
		t.Fatalf("%s is no decimal", s)
	}
	return d
}

// two is of a call with two decimals, handed in either way about; of nothing wanted it is over.
func two(t *testing.T, name string, call func(a, b api.Dec) (api.Dec, bool), a, b, want string) {
	t.Helper()
	var d api.Dec
	if want != "" {
		d = of(t, want)
	}
	got, fits := call(of(t, a), of(t, b))
	answers(t, a+name+b, got, fits, d, want != "")
	got, fits = call(of(t, b), of(t, a))
	answers(t, b+name+a, got, fits, d, want != "")
}

func adds(t *testing.T, a, b, want string) {
	t.Helper()
	two(t, " + ", dec.Add, a, b, want)
	turned(t, a, b, want)
}

// turned is of the sum with the other signs.
func turned(t *testing.T, a, b, want string) {
	t.Helper()
	if want != "" {
		want = other(want)
	}
	two(t, " + ", dec.Add, other(a), other(b), want)
}

func times(t *testing.T, a, b, want string) {
	t.Helper()
	two(t, " * ", dec.Mul, a, b, want)
	two(t, " * ", dec.Mul, other(a), other(b), want)
	if want != "" {
		want = other(want)
	}
	two(t, " * ", dec.Mul, other(a), b, want)
	two(t, " * ", dec.Mul, a, other(b), want)
}

// divides is of a number, and of that with the other sign.
func divides(t *testing.T, a string, n int, want string) {
	t.Helper()
	for range 2 {
		var d api.Dec
		if want != "" {
			d = of(t, want)
		}
		got, fits := dec.Div(of(t, a), n)
		answers(t, a+" / "+strconv.Itoa(n), got, fits, d, want != "")
		a = other(a)
		if want != "" {
			want = other(want)
		}
	}
}

// other is a text of the number with the other sign.
func other(s string) string {
	if rest, below := strings.CutPrefix(s, "-"); below {
		return rest
	}
	return "-" + s
}

// reckons is of all calls with two decimals, and these; one of them may be a number to divide by.
func reckons(t *testing.T, a, b api.Dec) {
	t.Helper()
	x, y := fraction(a), fraction(b)
	between := func(sign string) string { return show(a) + sign + show(b) }
	got, fits := dec.Add(a, b)
	want, should := decimal(new(big.Rat).Add(x, y))
	answers(t, between(" + "), got, fits, want, should)
	got, fits = dec.Mul(a, b)
	want, should = decimal(new(big.Rat).Mul(x, y))
	answers(t, between(" * "), got, fits, want, should)
	if got := dec.Cmp(a, b); got != x.Cmp(y) {
		t.Errorf("P1301: Cmp of %s: %d, not %d", between(" and "), got, x.Cmp(y))
	}
	tellsPart(t, a, b.M)
	want, should = decimal(new(big.Rat).Neg(x))
	answers(t, "Neg of "+show(a), dec.Neg(a), true, want, should)
}

func tellsPart(t *testing.T, a api.Dec, n int) {
	t.Helper()
	got, fits := dec.Div(a, n)
	want, should := part(a, n)
	answers(t, show(a)+" / "+strconv.Itoa(n), got, fits, want, should)
}

// P1301: Parse

func TestParse(t *testing.T) {
	reads(t, 0, 0, "0", "+0", "-0")
	reads(t, 1, 0, "1", "+1")
	reads(t, -1, 0, "-1")
	reads(t, 1234567890, 0, "1234567890", "+1234567890")
	reads(t, 15, 1, "1.5", "+1.5", "1.50", "01.5", "001.5000000000")
	reads(t, -5, 1, "-0.50", "-0.5", "-00.5", "-000.500") // the chapter's example
	reads(t, -1234, 2, "-12.34")
	reads(t, 1, 6, "0.000001", "+0.000001", "000.0000010")
	reads(t, 100, 0, "100", "0100", "100.0", "100.00000000")
	reads(t, 1001, 1, "100.1", "100.10")
	reads(t, 10001, 4, "1.0001", "01.00010")
	reads(t, 9876543210, 0, "9876543210", "9876543210.0")
	reads(t, 1234567891, 5, "12345.67891", "+12345.67891")
}

// TestParseSigns: one or none, ahead of the digits alone.
func TestParseSigns(t *testing.T) {
	fails(t, "", "+", "-", "++", "--", "+-", "-+", "+.", "-.", "+ ", "- ")
	for _, s := range []string{"++", "--", "+-", "-+", "+++", "---", "-+-"} {
		fails(t, s+"1", s+"1.5", s+"0", s+" 1")
	}
	for _, s := range []string{"+", "-"} {
		fails(t, "1"+s, "1"+s+"1", "1."+s+"5", "1.5"+s, "1"+s+".5", "1.5"+s+"1", s+"1"+s, s+"1."+s+"5", s+"1.5"+s)
		fails(t, s+".5", s+"5.", s+".", s+" 5", " "+s+"5", s+"5 ", s+"\t5", s+"5\n", s+"a", s+"\x00", s+"1"+s+"1")
	}
	fails(t, "\u22121", "\u20131", "\uff0b1") // other signs' bytes
}

// TestParsePoint: one or none, with digits ahead of it and behind.
func TestParsePoint(t *testing.T) {
	fails(t, ".", "..", "...", ".5", "5.", ".0", "0.", "5..", "..5", "5..5", ".5.", "5.5.", ".5.5", "1.2.3", "1.2.3.4", "0.0.0", "1..2", "0..")
	fails(t, "1. 5", "1 .5", "1 5", "1. ", "1.a", "1.5a", "1.0a", "1.a0", "a.5", "1.\x00", "1.\n", "1,5", "1'000", "1_000", "1 000", "1:5", "1/5", "1;5")
	fails(t, "1e5", "1E5", "1.5e1", "1e-5", "0x1", "0b1", "0o7", "1f", "1d", "Inf", "inf", "NaN", "nan", "+Inf", "-Inf", "infinity", "1i", "1+1i", "1/2", "1.5i", "x", "one")
	fails(t, "\u0661", "\uff11", "1\u0661", "1.\u0661", "\u00b2", "\u00bd", "1\u00b7 5", "1\uff0e5", "1.5\xff", "\xff1", "1\xc3", "\xef\xbb\xbf1", "1\x00")
}

// TestParseNoughts: those ahead and behind tell nothing, however many they are.
func TestParseNoughts(t *testing.T) {
	for _, n := range []int{1, 2, 5, 6, 7, 14, 15, 16, 17, 22, 23, 300, 308, 309, 310, 5000, 100000} {
		z := noughts(n)
		reads(t, 0, 0, z, "-"+z, "+"+z, z+".0", "0."+z, z+"."+z, "-0."+z, "-"+z+".00", "+"+z+"."+z)
		reads(t, 1, 0, z+"1", "1."+z, z+"1."+z, "+"+z+"1."+z)
		reads(t, -7, 0, "-"+z+"7", "-7."+z, "-"+z+"7."+z)
		reads(t, most, 0, z+"999999999999999", "999999999999999."+z, z+"999999999999999."+z)
		reads(t, -most, 6, "-"+z+"999999999.999999", "-999999999.999999"+z, "-"+z+"999999999.999999"+z)
		reads(t, 1, 6, z+".000001", "0.000001"+z, z+".000001"+z)
		reads(t, 205, 1, z+"20.5", "20.5"+z)
		fails(t, z+".", "."+z, z+"."+z+".", z+"-1", z+"+", z+"a", "0."+z+"a", "a"+z, "1."+z+"a", z+" ", z+"."+z+"\n")
	}
	reads(t, 0, 0, "-0.00", "-0", "+0.000", "-0.0", "00", "-00.00")
}

// TestParseDigits: fifteen, and one more, that falls away or not.
func TestParseDigits(t *testing.T) {
	reads(t, 999999999999999, 0, "999999999999999")
	reads(t, -999999999999999, 0, "-999999999999999")
	reads(t, 100000000000000, 0, "100000000000000")
	reads(t, 123456789012345, 0, "123456789012345", "123456789012345.0")
	reads(t, 99999999999999, 0, "99999999999999.00")
	fails(t, "1000000000000000", "-1000000000000000", "+1000000000000000.0", "9999999999999990", "9999999999999999", "1234567890123456", "1000000000000001", "01000000000000000")
	fails(t, "4503599627370496", "9007199254740991", "9007199254740992", "9007199254740993", "-9007199254740993", "9007199254740990.0", "9223372036854775807", "9223372036854775808", "18446744073709551616", "18446744073709551615", "18446744073709551617", "-18446744073709551616.0", "340282366920938463463374607431768211456")
	for scale := 1; scale <= 6; scale++ {
		s := "123456789012345"
		at := len(s) - scale
		reads(t, 123456789012345, scale, s[:at]+"."+s[at:], s[:at]+"."+s[at:]+"0", "0"+s[:at]+"."+s[at:]+"00")
		reads(t, -123456789012345, scale, "-"+s[:at]+"."+s[at:], "-"+s[:at]+"."+s[at:]+"0")
		fails(t, "6"+s[:at]+"."+s[at:], s[:at]+"6."+s[at:], "-1"+s[:at]+"."+s[at:])
		if scale < 6 {
			fails(t, s[:at]+"."+s[at:]+"6", "-"+s[:at]+"."+s[at:]+"01")
			reads(t, most, scale, strings.Repeat("9", 15-scale)+"."+strings.Repeat("9", scale)+"0")
		}
		fails(t, "1"+noughts(15-scale)+"."+noughts(scale-1)+"1") // sixteen digits, noughts between
		reads(t, 100000000000001, scale, "1"+noughts(14-scale)+"."+noughts(scale-1)+"1")
	}
	for n := 16; n < 400; n++ {
		fails(t, "1"+noughts(n-1), strings.Repeat("9", n), "-1"+noughts(n-1)+".0", "1"+noughts(n-1)+".5", "1"+noughts(n-1)+".000000"+"1", noughts(n)+"1"+noughts(n-1))
	}
	fails(t, strings.Repeat("1", 100000), strings.Repeat("1234567890", 10000)+".5", "1"+noughts(100000), "0."+strings.Repeat("3", 100000))
}

// TestParseBehind: six digits behind the point, and one more, that falls away or not.
func TestParseBehind(t *testing.T) {
	reads(t, 123456, 6, "0.123456", "0.1234560", "0.123456000")
	reads(t, 12345, 5, "0.12345", "0.123450", "0.1234500")
	reads(t, -100001, 6, "-0.100001", "-0.1000010")
	fails(t, "0.1234567", "0.0000001", "-0.0000001", "0.1000001", "1.0000001", "0.00000001", "0.0000010000001", "0.1234560001", "12.3456789", "0."+noughts(6)+"1", "0."+noughts(300)+"1", "0."+noughts(400)+"1", "-0."+noughts(100000)+"1")
	reads(t, 999999999999999, 6, "999999999.999999", "999999999.9999990")
	fails(t, "999999999.9999999", "99999999.9999999", "9999999999.999999", "1000000000.000001")
	reads(t, 1000000000000, 0, "1000000000000.000000000")
	reads(t, 9999999999, 5, "99999.99999")
}

// TestParseAllShort has all texts of some letters.
func TestParseAllShort(t *testing.T) {
	l := []string{""}
	for from, n := 0, 0; n < 6; n++ {
		to := len(l)
		for _, s := range l[from:to] {
			for _, c := range []string{"+", "-", ".", "0", "5", "9", "e"} {
				l = append(l, s+c)
			}
		}
		from = to
	}
	for _, s := range l {
		tells(t, s)
	}
}

// samples are texts of all kinds.
func samples() []string {
	return []string{
		"", "0", "-0.50", "+12.340", "100", "999999999999999", "-999999999.999999", "1.0000000000000", "00000000000000000001", "0.000001", "1000000000000000", "0.0000001", "99999999999999.90",
	}
}

// TestParseEachByte puts every byte at each place of some texts, between their bytes and for them.
func TestParseEachByte(t *testing.T) {
	for _, s := range samples() {
		for at := range len(s) + 1 {
			for i := range 256 {
				c := string([]byte{byte(i)})
				tells(t, s[:at]+c+s[at:])
				tells(t, s[:at]+c+s[min(at+1, len(s)):])
			}
		}
	}
	for i := range 256 {
		for j := range 256 {
			tells(t, string([]byte{byte(i), byte(j)}))
		}
	}
}

func TestParseThrown(t *testing.T) {
	d := die(1301)
	for range 100000 {
		tells(t, d.text())
	}
}

// P1301: Print, and P1302

func TestPrint(t *testing.T) {
	prints(t, 0, 0, "0")
	prints(t, 7, 0, "7")
	prints(t, -7, 0, "-7")
	prints(t, 100, 0, "100")
	prints(t, -5, 1, "-0.5")
	prints(t, 5, 1, "0.5")
	prints(t, 15, 1, "1.5")
	prints(t, -1234, 2, "-12.34")
	prints(t, 105, 2, "1.05")
	prints(t, -105, 2, "-1.05")
	prints(t, 10001, 4, "1.0001")
	prints(t, most, 0, "999999999999999")
	prints(t, -most, 0, "-999999999999999")
	prints(t, most, 6, "999999999.999999")
	prints(t, -most, 6, "-999999999.999999")
	prints(t, 100000000000001, 6, "100000000.000001")
	for scale := 1; scale <= 6; scale++ {
		z := noughts(scale - 1)
		prints(t, 1, scale, "0."+z+"1")
		prints(t, -1, scale, "-0."+z+"1")
		prints(t, most, scale, strings.Repeat("9", 15-scale)+"."+strings.Repeat("9", scale))
		prints(t, -most, scale, "-"+strings.Repeat("9", 15-scale)+"."+strings.Repeat("9", scale))
		for n := 1; n <= 15; n++ {
			s := "123456789123451"[:n]
			m, _ := strconv.Atoi(s)
			want := noughts(max(scale+1-n, 0)) + s
			want = want[:len(want)-scale] + "." + want[len(want)-scale:]
			prints(t, m, scale, want)
			prints(t, -m, scale, "-"+want)
		}
	}
}

// TestPrintSmall has all decimals of up to four digits.
func TestPrintSmall(t *testing.T) {
	for m := -9999; m <= 9999; m++ {
		for scale := range 7 {
			if d := (api.Dec{M: m, Scale: scale}); is(d) {
				again(t, d)
			}
		}
	}
}

// TestThereAndBack: each decimal is read as the same, and what is read of any text that fits, printed, is one text.
func TestThereAndBack(t *testing.T) {
	for _, d := range row() {
		again(t, d)
	}
	d := die(1302)
	for range 50000 {
		again(t, d.dec())
		s := d.text()
		got, fits := dec.Parse(s)
		if !fits {
			continue
		}
		if !is(got) {
			t.Errorf("P1301: %s: %s is no decimal", clip(s), show(got))
			continue
		}
		again(t, got)
	}
}

// P1301: Add, Mul, Neg, Div, Cmp

func TestAdd(t *testing.T) {
	adds(t, "0", "0", "0")
	adds(t, "0", "5.5", "5.5")
	adds(t, "1", "2", "3")
	adds(t, "1", "-1", "0")
	adds(t, "1.5", "-1.5", "0")
	adds(t, "0.000001", "-0.000001", "0")
	adds(t, "999999999.999999", "-999999999.999999", "0")
	adds(t, "999999999999999", "-999999999999999", "0")
	adds(t, "0.5", "0.5", "1")
	adds(t, "9.5", "0.5", "10")
	adds(t, "99.75", "0.25", "100")
	adds(t, "0.75", "0.75", "1.5")
	adds(t, "1.05", "2.05", "3.1")
	adds(t, "0.999999", "0.000001", "1")
	adds(t, "0.123456", "0.000004", "0.12346")
	adds(t, "1.25", "-0.25", "1")
	adds(t, "1", "0.000001", "1.000001")
	adds(t, "10", "-0.5", "9.5")
	adds(t, "0.5", "0.25", "0.75")
	adds(t, "1.5", "2.05", "3.55")
	adds(t, "100", "0.01", "100.01")
	adds(t, "-100", "0.01", "-99.99")
	adds(t, "100000", "-0.1", "99999.9")
}

// TestAddOver has sums that just fit, and that are just over.
func TestAddOver(t *testing.T) {
	adds(t, "999999999999998", "1", "999999999999999")
	adds(t, "999999999999999", "1", "")
	adds(t, "999999999999999", "999999999999999", "")
	adds(t, "999999999999999", "0", "999999999999999")
	adds(t, "500000000000000", "499999999999999", "999999999999999")
	adds(t, "500000000000000", "500000000000000", "")
	adds(t, "999999999.999999", "0.000001", "1000000000")
	adds(t, "999999999.999998", "0.000001", "999999999.999999")
	adds(t, "999999999.999999", "0.000002", "")
	adds(t, "999999999.999999", "999999999.999999", "")
	adds(t, "999999999.999995", "999999999.999995", "1999999999.99999")
	adds(t, "99999999999999.5", "0.5", "100000000000000")
	adds(t, "99999999999999.9", "0.1", "100000000000000")
	adds(t, "99999999999999.9", "0.2", "")
	adds(t, "99999999999999.9", "0.01", "")
	adds(t, "99999999999999.8", "0.1", "99999999999999.9")
	adds(t, "99999999999999.5", "99999999999999.5", "199999999999999")
	adds(t, "999999999999999", "0.5", "")
	adds(t, "999999999999999", "-0.5", "")
	adds(t, "999999999999999", "0.000001", "")
	adds(t, "100000000000000", "0.5", "")
	adds(t, "100000000000000", "-0.5", "99999999999999.5")
	adds(t, "100000000000000", "-0.1", "99999999999999.9")
	adds(t, "100000000000000", "-0.01", "")
	adds(t, "99999999999999", "0.9", "99999999999999.9")
	adds(t, "999999999", "0.999999", "999999999.999999")
	adds(t, "1000000000", "0.000001", "")
	adds(t, "1000000000", "-0.000001", "999999999.999999")
	adds(t, "1000000000.1", "-0.100001", "999999999.999999")
	adds(t, "1000000000.1", "-0.1", "1000000000")
	adds(t, "900719925474099", "0.2", "")
	adds(t, "90071992547409.9", "0.02", "")
	adds(t, "999999999999999", "999999999.999999", "")
	adds(t, "999999999999999", "-999999999.999999", "")
	adds(t, "900719925474100", "900719925474100", "")
}

func TestMul(t *testing.T) {
	times(t, "0", "0", "0")
	times(t, "0", "5.5", "0")
	times(t, "0", "0.000001", "0")
	times(t, "0", "999999999999999", "0")
	times(t, "1", "999999999.999999", "999999999.999999")
	times(t, "3", "4", "12")
	times(t, "5", "2", "10")
	times(t, "0.5", "0.5", "0.25")
	times(t, "0.5", "2", "1")
	times(t, "2.5", "0.4", "1")
	times(t, "12.5", "0.8", "10")
	times(t, "1.25", "0.25", "0.3125")
	times(t, "1.5", "1.5", "2.25")
	times(t, "0.05", "0.2", "0.01")
	times(t, "0.002", "0.0005", "0.000001")
	times(t, "0.001", "0.001", "0.000001")
	times(t, "0.01", "100", "1")
	times(t, "0.01", "10000", "100")
	times(t, "0.000001", "1000000", "1")
	times(t, "0.000001", "999999999999999", "999999999.999999")
	times(t, "0.015625", "0.64", "0.01") // 2 by itself six times over, and 5
	times(t, "0.015625", "0.000064", "0.000001")
	times(t, "0.015625", "15.625", "")
	times(t, "0.000064", "0.015625", "0.000001")
	times(t, "1.024", "0.976562", "")
	times(t, "0.03125", "0.00032", "0.00001")
}

// TestMulOver has products that just fit, and that are just over: by the digits, and by those behind the point.
func TestMulOver(t *testing.T) {
	times(t, "999999999999999", "1", "999999999999999")
	times(t, "333333333333333", "3", "999999999999999")
	times(t, "500000000000000", "2", "")
	times(t, "333333333333334", "3", "")
	times(t, "10000000", "10000000", "100000000000000")
	times(t, "100000000", "10000000", "")
	times(t, "31622776", "31622776", "999999961946176")
	times(t, "31622777", "31622777", "")
	times(t, "90071992", "100000000", "")
	times(t, "94906267", "94906267", "")
	times(t, "999999999999999", "999999999999999", "")
	times(t, "999999999999999", "999999999.999999", "")
	times(t, "999999999.999999", "999999999.999999", "")
	times(t, "999999999999999", "0.1", "99999999999999.9")
	times(t, "999999999999999", "0.2", "")
	times(t, "100000000000000", "0.2", "20000000000000")
	times(t, "500000000000000", "0.000002", "1000000000")
	times(t, "500000000000000", "0.2", "100000000000000")
	times(t, "500000000000000", "1.8", "900000000000000")
	times(t, "500000000000000", "2.2", "")
	times(t, "562949953421312", "0.015625", "8796093022208")
	times(t, "562949953421312", "1.953125", "")
	times(t, "549755813888", "1.953125", "1073741824000")
	times(t, "95367431.640625", "10485.76", "1000000000000")
	times(t, "95367431640625", "10.48576", "")
	times(t, "95367431640625", "1.048576", "100000000000000")
	times(t, "0.000001", "0.1", "")
	times(t, "0.001", "0.0001", "")
	times(t, "0.000001", "0.000001", "")
	times(t, "0.000005", "0.000002", "")
	times(t, "0.000005", "0.2", "0.000001")
	times(t, "0.000005", "0.02", "")
	times(t, "0.000125", "0.008", "0.000001")
	times(t, "0.000125", "0.0008", "")
	times(t, "9999999.5", "0.000001", "")
	times(t, "9999999.5", "0.00001", "99.999995")
	times(t, "9.99999", "0.1", "0.999999")
	times(t, "9.999999", "0.1", "")
	times(t, "9999999999.5", "0.1", "999999999.95")
	times(t, "99999999999.5", "0.5", "49999999999.75")
	times(t, "9999999999.995", "0.5", "4999999999.9975")
	times(t, "9999999999999.5", "0.5", "4999999999999.75")
	times(t, "99999999999999.5", "0.5", "")
}

func TestNeg(t *testing.T) {
	for _, x := range [][2]string{{"5", "-5"}, {"0.5", "-0.5"}, {"100", "-100"}, {"999999999999999", "-999999999999999"}, {"999999999.999999", "-999999999.999999"}, {"0.000001", "-0.000001"}, {"0", "0"}} {
		a, b := of(t, x[0]), of(t, x[1])
		answers(t, "Neg of "+x[0], dec.Neg(a), true, b, true)
		answers(t, "Neg of "+x[1], dec.Neg(b), true, a, true)
	}
	if s := dec.Print(dec.Neg(api.Dec{})); s != "0" {
		t.Errorf("P1301: Neg of 0: %s", s)
	}
	for _, d := range row() {
		answers(t, "Neg of Neg of "+show(d), dec.Neg(dec.Neg(d)), true, d, true)
		got, fits := dec.Add(d, dec.Neg(d))
		answers(t, show(d)+" and Neg of it", got, fits, api.Dec{}, true)
	}
}

func TestDiv(t *testing.T) {
	divides(t, "0", 1, "0")
	divides(t, "0", math.MaxInt, "0")
	divides(t, "10", 5, "2")
	divides(t, "100", 8, "12.5")
	divides(t, "1", 2, "0.5")
	divides(t, "7", 7, "1")
	divides(t, "1", 64, "0.015625")
	divides(t, "1", 128, "0.007812") // 0.0078125
	divides(t, "1", 3, "0.333333")
	divides(t, "2", 3, "0.666666")
	divides(t, "1", 7, "0.142857")
	divides(t, "22", 7, "3.142857")
	divides(t, "1", 6, "0.166666")
	divides(t, "1", 999999, "0.000001")
	divides(t, "1", 1000000, "0.000001")
	divides(t, "1", 1000001, "0")
	divides(t, "1", 500000, "0.000002")
	divides(t, "1", 500001, "0.000001")
	divides(t, "0.000001", 1, "0.000001")
	divides(t, "0.000001", 2, "0")
	divides(t, "0.000003", 2, "0.000001")
	divides(t, "0.000001", math.MaxInt, "0")
	divides(t, "0.5", 2, "0.25")
	divides(t, "0.5", 10, "0.05")
	divides(t, "2.5", 5, "0.5")
	divides(t, "10.5", 5, "2.1")
	divides(t, "1.2", 12, "0.1")
	divides(t, "12.34", 2, "6.17")
	divides(t, "12.35", 2, "6.175")
	divides(t, "0.123456", 2, "0.061728")
	divides(t, "0.123457", 2, "0.061728")
	divides(t, "5", 7000000, "0")
	divides(t, "5", 1<<62, "0")
}

// TestDivNone: by a number below 1 there is nothing.
func TestDivNone(t *testing.T) {
	for _, n := range []int{0, -1, -2, -10, -1000000, math.MinInt32, math.MinInt + 1, math.MinInt} {
		for _, d := range row() {
			got, fits := dec.Div(d, n)
			answers(t, show(d)+" / "+strconv.Itoa(n), got, fits, api.Dec{}, false)
		}
	}
}

// TestDivOver has what just fits, and what is just over.
func TestDivOver(t *testing.T) {
	divides(t, "999999999999999", 1, "999999999999999")
	divides(t, "999999999.999999", 1, "999999999.999999")
	divides(t, "999999999999999", 3, "333333333333333")
	divides(t, "999999999999999", 2, "")
	divides(t, "999999999999999", 7, "")
	divides(t, "999999999999998", 2, "499999999999999")
	divides(t, "199999999999999", 2, "99999999999999.5")
	divides(t, "200000000000001", 2, "")
	divides(t, "999999999999999", 10, "99999999999999.9")
	divides(t, "999999999999999", 100, "9999999999999.99")
	divides(t, "999999999999999", 1000000, "999999999.999999")
	divides(t, "999999999999999", 10000000, "99999999.999999") // 99999999.9999999
	divides(t, "999999999999999", 999999, "")                  // 1000001000.001
	divides(t, "999999999999999", 1000001, "999999000.000998")
	divides(t, "100000000000000", 3, "")
	divides(t, "3000000000", 7, "428571428.571428")
	divides(t, "7000000000", 6, "")
	divides(t, "100000000000001", 100000000, "1000000") // 1000000.00000001
	divides(t, "100000000000001", 1000000000, "100000")
	divides(t, "999999999999999", 999999999999999, "1")
	divides(t, "999999999999998", 999999999999999, "0.999999")
	divides(t, "999999999999999", 999999999999998, "1")
	divides(t, "999999999999999", 1000000000000000, "0.999999")
	divides(t, "999999999999999", 1<<53, "0.111022")
	divides(t, "999999999999999", 1<<53+1, "0.111022")
	divides(t, "999999999999999", 1<<62, "0.000216")
	divides(t, "999999999999999", math.MaxInt, "0.000108")
	divides(t, "999999999999999", math.MaxInt-1, "0.000108")
	divides(t, "999999999.999999", math.MaxInt, "0")
	divides(t, "100000000000.1", 100000, "1000000.000001")
	divides(t, "100000.1", 100000, "1.000001")
	divides(t, "100000.1", 1000000, "0.1")
	divides(t, "1000000.1", 1000000, "1")
}

// TestDivNoughts: the digits behind the sixth, that are gone, leave noughts ahead of them, that go too.
func TestDivNoughts(t *testing.T) {
	for k := 1; k <= 6; k++ {
		for _, by := range []int{1, 3, 7, 9} {
			n := int(power(6-k).Int64()) + by
			for _, x := range []int{99999000009, 99999999999, 9007199254741, 90071992547, 100000000001, 123456789, 999999999999999 / n, 900719925474099 / n} {
				for rest := range 10 {
					for _, s := range []int{0, 1, 3, 6} {
						d := api.Dec{M: (x*n + rest) / 10, Scale: s}
						if is(d) {
							tellsPart(t, d, n)
							tellsPart(t, dec.Neg(d), n)
						}
					}
				}
			}
		}
	}
	divides(t, "999999999990001", 100001, "9999900000.9")
}

func TestCmp(t *testing.T) {
	l := []string{"-999999999999999", "-999999999999998", "-99999999999999.9", "-999999999.999999", "-1000", "-999.5", "-2", "-1.5", "-1.25", "-1.000001", "-1", "-0.999999", "-0.5", "-0.1", "-0.09", "-0.000002", "-0.000001", "0", "0.000001", "0.000009", "0.00001", "0.09", "0.1", "0.4", "0.41", "0.5", "1", "1.000001", "1.1", "2", "10", "10.1", "999999998.999999", "999999999", "999999999.999999", "1000000000", "99999999999999", "99999999999999.5", "100000000000000", "999999999999998", "999999999999999"}
	for i, x := range l {
		for k, y := range l {
			want := min(max(i-k, -1), 1)
			if got := dec.Cmp(of(t, x), of(t, y)); got != want {
				t.Errorf("P1301: Cmp of %s and %s: %d, not %d", x, y, got, want)
			}
		}
	}
}

// row has decimals of either sign and each scale: noughts, nines, powers of 2 and 5 and 10, and what is beside them.
func row() []api.Dec {
	m := []int{0, 1, 2, 3, 7, 9, 99, 999, 12345, 333333333333333, 142857142857142, 562949953421313, 123456789012345, 31622776, 31622777, 94906265, 94906266, 94906267, most, most - 1, most / 2, most/2 + 1, most / 10, most / 3}
	for _, f := range []int{2, 5, 10} {
		for x := f; x <= most; x *= f {
			m = append(m, x-1, x, x+1)
		}
	}
	slices.Sort(m)
	var l []api.Dec
	for _, x := range slices.Compact(m) {
		for scale := range 7 {
			for _, d := range []api.Dec{{M: x, Scale: scale}, {M: -x, Scale: scale}} {
				if is(d) && (x != 0 || len(l) == 0) {
					l = append(l, d)
				}
			}
		}
	}
	return l
}

// TestReckon has many pairs of these, and Div of each by many numbers.
func TestReckon(t *testing.T) {
	l := row()
	for i, a := range l {
		for k, b := range l {
			if (i*31+k)%61 == 0 {
				reckons(t, a, b)
			}
		}
	}
	by := []int{1, 2, 3, 4, 5, 6, 7, 8, 9, 11, 17, 97, 99991, 1<<53 - 1, 1 << 53, 1<<53 + 1, math.MaxInt32, math.MaxInt / 10, math.MaxInt/10 + 1, math.MaxInt - 1, math.MaxInt}
	for _, f := range []int{2, 5, 10} {
		for x := f; x <= math.MaxInt/f; x *= f {
			by = append(by, x-1, x, x+1)
		}
	}
	for i, a := range l {
		for k, n := range by {
			if (i+k)%7 == 0 {
				tellsPart(t, a, n)
			}
		}
	}
}

// TestReckonPowers has every two powers of 2, 5, 10, of whose products many end with noughts.
func TestReckonPowers(t *testing.T) {
	var l []api.Dec
	for _, f := range []int{2, 5, 10} {
		for x := f; x <= most; x *= f {
			for scale := range 7 {
				if d := (api.Dec{M: x, Scale: scale}); is(d) {
					l = append(l, d)
				}
			}
		}
	}
	for i, a := range l {
		for _, b := range l[:i+1] {
			reckons(t, a, b)
		}
	}
}

// TestReckonSmall has every two decimals of few digits.
func TestReckonSmall(t *testing.T) {
	var l []api.Dec
	for m := -25; m <= 25; m++ {
		for scale := range 7 {
			if d := (api.Dec{M: m, Scale: scale}); is(d) {
				l = append(l, d)
			}
		}
	}
	for _, a := range l {
		for _, b := range l {
			reckons(t, a, b)
		}
	}
}

func TestReckonThrown(t *testing.T) {
	d := die(1303)
	for range 25000 {
		a, b := d.dec(), d.dec()
		reckons(t, a, b)
		tellsPart(t, a, d.number())
		// sums and products that are near the bounds
		want, fits := decimal(new(big.Rat).Sub(fraction(b), fraction(a)))
		if fits {
			reckons(t, a, want)
		}
		if n := most / max(a.M, -a.M, 1); n > 0 {
			for _, m := range []int{n - 1, n, n + 1} {
				if m <= most {
					reckons(t, a, api.Dec{M: m})
				}
			}
		}
	}
}

// TestLaws: sums and products are the same whichever way about they are made, where all of them fit.
func TestLaws(t *testing.T) {
	d := die(1304)
	small := func() api.Dec {
		for {
			if y := (api.Dec{M: d.of(20001) - 10000, Scale: d.of(3)}); is(y) {
				return y
			}
		}
	}
	for range 20000 {
		a, b, c := small(), small(), small()
		ab, _ := dec.Add(a, b)
		bc, _ := dec.Add(b, c)
		x, _ := dec.Add(ab, c)
		y, fits := dec.Add(a, bc)
		answers(t, show(a)+" + "+show(b)+" + "+show(c), x, true, y, fits)
		left, _ := dec.Mul(a, bc)
		ab, _ = dec.Mul(a, b)
		ac, _ := dec.Mul(a, c)
		right, fits := dec.Add(ab, ac)
		answers(t, show(a)+" * ("+show(b)+" + "+show(c)+")", left, true, right, fits)
	}
}

// P1 to P7

// TestAny (P1): of what is no decimal all calls end.
func TestAny(t *testing.T) {
	ints := []int{math.MinInt, math.MinInt + 1, -1 << 62, -1 << 53, -most - 2, -most - 1, -most, -1000000, -50, -10, -7, -6, -2, -1, 0, 1, 2, 5, 6, 7, 8, 10, 50, 308, 309, 1000000, math.MaxInt32, most, most + 1, most + 2, 1<<53 - 1, 1 << 53, 1<<53 + 2, 1 << 62, math.MaxInt - 1, math.MaxInt}
	var l []api.Dec
	for _, m := range ints {
		for _, scale := range ints {
			l = append(l, api.Dec{M: m, Scale: scale})
		}
	}
	for _, a := range l {
		dec.Print(a)
		dec.Neg(a)
		for _, n := range ints {
			dec.Div(a, n)
		}
		for _, b := range l {
			dec.Add(a, b)
			dec.Mul(a, b)
			dec.Cmp(a, b)
		}
	}
}

// TestAnyText (P1): long texts.
func TestAnyText(t *testing.T) {
	for _, s := range []string{"+", "-", ".", "0", "1", "9", "1.", ".1", "0.", ".0", "-1", "a", " ", "\x00", "\xff", "é", "e"} {
		fails(t, strings.Repeat(s, 4<<10)+"a", strings.Repeat(s, 4<<10)+".")
		tells(t, strings.Repeat(s, 4<<10))
		tells(t, "0."+strings.Repeat(s, 4<<10))
		tells(t, "-1"+strings.Repeat(s, 4<<10)+".5")
	}
	for s, want := range map[string]api.Dec{noughts(1<<22) + "5." + noughts(1<<22): {M: 5}, "-0." + noughts(1<<22): {}, noughts(1<<22) + ".25" + noughts(1<<22): {M: 25, Scale: 2}} {
		got, fits := dec.Parse(s)
		answers(t, clip(s), got, fits, want, true)
	}
	for _, s := range []string{strings.Repeat("7", 1<<22), "0." + noughts(1<<22) + "1", "1" + noughts(1<<22), strings.Repeat("7", 1<<22) + "." + strings.Repeat("7", 1<<22)} {
		got, fits := dec.Parse(s)
		answers(t, clip(s), got, fits, api.Dec{}, false)
	}
}

// TestOwnMemory (P2): a text that was made of bytes, which stay as they are, and change later.
func TestOwnMemory(t *testing.T) {
	for _, s := range samples() {
		b := []byte(s)
		got, fits := dec.Parse(unsafe.String(unsafe.SliceData(b), len(b)))
		if string(b) != s {
			t.Errorf("P2: %q is changed: %q", s, b)
		}
		clear(b)
		want, should := parse(s)
		answers(t, clip(s), got, fits, want, should)
	}
}

// TestArguments (P2): what was handed in holds the same behind a call.
func TestArguments(t *testing.T) {
	for _, a := range row() {
		b, c := a, api.Dec{M: 5, Scale: 1}
		dec.Print(b)
		dec.Neg(b)
		dec.Add(b, c)
		dec.Mul(c, b)
		dec.Div(b, 3)
		dec.Cmp(b, c)
		if b != a || c != (api.Dec{M: 5, Scale: 1}) {
			t.Errorf("P2: %s is changed: %s, %s", show(a), show(b), show(c))
		}
	}
}

// TestSideBySide (P3, P7): the same calls answer the same, many at once too.
func TestSideBySide(t *testing.T) {
	l := row()
	var w sync.WaitGroup
	for range 8 {
		w.Go(func() {
			for range 3 {
				for _, s := range samples() {
					tells(t, s)
				}
				for i, a := range l {
					reckons(t, a, l[(i*7+3)%len(l)])
					again(t, a)
				}
			}
		})
	}
	w.Wait()
}

// Thrown

// die throws numbers.
type die uint64

func (d *die) of(k int) int {
	*d = *d*6364136223846793005 + 1442695040888963407
	return int(uint64(*d) >> 33 % uint64(k))
}

// number throws one above 0, of any length.
func (d *die) number() int {
	n := d.of(1<<31)<<32 | d.of(1<<31)<<1 | d.of(2)
	return max(n>>d.of(63), 1)
}

// dec throws a decimal, of any digits, or with many noughts and nines, or of powers.
func (d *die) dec() api.Dec {
	for {
		y := api.Dec{Scale: d.of(7)}
		switch d.of(4) {
		case 0:
			y.M = d.number() % (most + 1)
		case 1:
			y.M = d.of(2000)
		case 2:
			y.M = 1
			for range d.of(40) {
				if f := []int{2, 5, 10}[d.of(3)]; y.M <= most/f {
					y.M *= f
				}
			}
		case 3:
			for range d.of(16) {
				y.M = y.M*10 + []int{0, 0, 0, 9, 9, 1, 5}[d.of(7)]
			}
		}
		if d.of(2) == 0 {
			y.M = -y.M
		}
		if is(y) {
			return y
		}
	}
}

// text throws one that is a number's, or nearly.
func (d *die) text() string {
	var b []byte
	digits := func() {
		for range d.of(5) {
			b = append(b, strings.Repeat([]string{"0", "9", "1", "5"}[d.of(4)], d.of(5))...)
			b = strconv.AppendInt(b, int64(d.of(1<<d.of(20))), 10)
		}
	}
	if d.of(3) == 0 {
		b = append(b, "+-"[d.of(2)])
	}
	digits()
	if d.of(3) > 0 {
		b = append(b, '.')
		if d.of(3) == 0 {
			digits()
		} else {
			b = strconv.AppendInt(b, int64(d.of(1<<d.of(21))), 10)
			b = append(b, noughts(d.of(4))...)
		}
	}
	if d.of(8) == 0 {
		at := d.of(len(b) + 1)
		b = slices.Insert(b, at, "+-. e_,a\x00\xff"[d.of(10)])
	}
	return string(b)
}

func FuzzParse(f *testing.F) {
	for _, s := range samples() {
		f.Add(s)
	}
	f.Fuzz(func(t *testing.T, s string) {
		tells(t, s)
		if d, fits := dec.Parse(s); fits {
			again(t, d)
		}
	})
}

func FuzzReckon(f *testing.F) {
	for i, d := range row() {
		f.Add(d.M, d.Scale, most-d.M, i%7)
	}
	f.Fuzz(func(t *testing.T, m, scale, n, behind int) {
		a, b := api.Dec{M: m, Scale: scale}, api.Dec{M: n, Scale: behind}
		if !is(a) {
			return
		}
		tellsPart(t, a, n)
		if is(b) {
			reckons(t, a, b)
			reckons(t, b, a)
		}
	})
}
