package decimal_test

import (
	"fmt"
	"math"
	"strconv"
	"strings"
	"testing"

	"gabarit/api"
	"gabarit/decimal"
)

func TestCheck(t *testing.T) { // P5.1
	for _, a := range []api.Decimal{
		{Digits: "0"}, {Digits: "1"}, {Neg: true, Digits: "1"}, {Digits: "9"}, {Digits: "10"}, {Digits: "100"}, {Digits: "101", Scale: 1}, {Digits: "5", Scale: 1}, {Digits: "5", Scale: 2}, {Neg: true, Digits: "5", Scale: 59}, {Digits: "5", Scale: 60}, {Digits: "1234567890"},
		{Digits: nines(60)}, {Digits: ten(59)}, {Neg: true, Digits: ten(59)}, {Digits: nines(60), Scale: 60}, {Neg: true, Digits: nines(60), Scale: 1}, {Digits: "1" + zeros(58) + "1", Scale: 30},
	} {
		if e := decimal.Check(a); e != api.OK {
			t.Errorf("Check of %v: %d", a, e)
		}
	}
	for _, a := range wrong() {
		if e := decimal.Check(a); e != api.ErrArg {
			t.Errorf("Check of %v: %d", a, e)
		}
	}
}

// TestCheckAgrees has all short strings of some bytes as Digits.
func TestCheckAgrees(t *testing.T) { // P5.1
	for _, s := range strings4("0159-.x/:") {
		for _, scale := range []int{-1, 0, 1, 2, 60, 61} {
			for _, neg := range []bool{false, true} {
				a := api.Decimal{Neg: neg, Digits: s, Scale: scale}
				if e := decimal.Check(a); (e == api.OK) != modelValid(a) || e != api.OK && e != api.ErrArg {
					t.Errorf("Check of %v: %d", a, e)
				}
			}
		}
	}
}

// strings4 are all strings of at most four of some bytes.
func strings4(bytes string) []string {
	l := []string{""}
	for i := 0; len(l[i]) < 4; i++ {
		for _, c := range bytes {
			l = append(l, l[i]+string(c))
		}
	}
	return l
}

func TestOf(t *testing.T) { // P5.1
	for n, want := range map[int64]api.Decimal{
		0: {Digits: "0"}, 1: {Digits: "1"}, -1: {Neg: true, Digits: "1"}, 10: {Digits: "10"}, -10: {Neg: true, Digits: "10"}, 1000: {Digits: "1000"}, 999999999: {Digits: "999999999"}, 1000000000: {Digits: "1000000000"}, -1000000001: {Neg: true, Digits: "1000000001"}, 1 << 32: {Digits: "4294967296"},
		math.MaxInt64: {Digits: "9223372036854775807"}, math.MinInt64: {Neg: true, Digits: "9223372036854775808"}, math.MinInt64 + 1: {Neg: true, Digits: "9223372036854775807"}, 1000000000000000000: {Digits: ten(18)},
	} {
		if a := decimal.Of(n); a != want {
			t.Errorf("Of %d: %v", n, a)
		}
	}
	d := dice(1)
	for range 3000 {
		n := (int64(d.below(1<<24))<<48 ^ int64(d.below(1<<24))<<24 ^ int64(d.below(1<<24))) >> d.below(64)
		if a := decimal.Of(n); a != dec(strconv.FormatInt(n, 10)) {
			t.Errorf("Of %d: %v", n, a)
		}
	}
}

func TestRead(t *testing.T) { // P5.2
	for s, want := range map[string]string{
		"0": "0", "1": "1", "-1": "-1", "+1": "1", "+007.50": "7.5", "-.0": "0", "12.": "12", "-12.": "-12", "+12.": "12", ".5": "0.5", "-.5": "-0.5", "+.5": "0.5", "0.5": "0.5", "5.0": "5", "-5.00": "-5", "00": "0", "-0": "0", "+0": "0", "-0.": "0", "0.0": "0", ".0": "0", "+.00": "0",
		"100": "100", "-100": "-100", "100.0": "100", "0100": "100", "10.10": "10.1", "00.010": "0.01", "-12.340": "-12.34", "1.05": "1.05", "-0.05": "-0.05", "1000000000": "1000000000", "999999999.999999999": "999999999.999999999", "0000000001.0000000001": "1.0000000001", "1234567890123456789.987654321": "1234567890123456789.987654321",
	} {
		a, e := decimal.Read(s)
		is(t, "Read of "+s, a, e, dec(want), api.OK)
	}
	for _, s := range []string{
		"", ".", "-", "+", "-.", "+.", "..", "--1", "++1", "+-1", "-+1", "1-", "1+", "1.2.3", "1..2", ".1.", "..1", "1.-2", ".-2", "-.-2", "1.+2",
		" 1", "1 ", " ", "1 2", "- 1", "1 .2", "1. 2", "\t1", "1\n", "1\r\n", "\u00a01", "1e3", "1E3", "1.5e0", "0x1", "0x1p0", "0b1", "1_000", "1,5", "1,000", "1/2", "inf", "Inf", "-Inf", "NaN", "nan", "a", "1a", "\u0661", "1\u0661", "\uff11", "\u22121", "1\x00", "\x001", "\xff", "1\xff", "(1)", "1%",
		nines(61) + "x", "x" + nines(61), nines(61) + ".1.", ten(60) + " ", "+" + nines(100) + "-", "0." + zeros(60) + "1 ", "-" + zeros(100) + "..",
	} {
		a, e := decimal.Read(s)
		is(t, "Read of "+s, a, e, api.Decimal{}, api.ErrForm)
	}
}

func TestReadLimits(t *testing.T) { // P5.2
	for _, sign := range []string{"", "-", "+"} {
		minus := strings.Trim(sign, "+")
		for _, s := range []string{nines(60), ten(59), nines(30) + "." + nines(30), "0." + nines(60), "0." + zeros(59) + "1", nines(1) + "." + nines(59), nines(59) + "." + nines(1), ten(29) + "." + zeros(29) + "1"} {
			for _, text := range []string{s, zeros(1) + s, zeros(60) + s, strings.TrimPrefix(s, "0")} {
				a, e := decimal.Read(sign + text)
				is(t, "Read of "+sign+text, a, e, dec(minus+s), api.OK)
			}
		}
		for s, want := range map[string]string{nines(60) + ".": nines(60), ten(59) + ".000": ten(59), nines(60) + "." + zeros(100): nines(60), "0." + zeros(59) + "1000": "0." + zeros(59) + "1", "." + nines(60) + "0": "0." + nines(60), "1." + zeros(100): "1"} {
			a, e := decimal.Read(sign + s)
			is(t, "Read of "+sign+s, a, e, dec(minus+want), api.OK)
		}
		for _, s := range []string{nines(61), ten(60), ten(61), ten(60) + ".0", nines(60) + ".5", nines(59) + ".55", nines(30) + "." + nines(31), nines(31) + "." + nines(30), "1." + zeros(59) + "1", "1." + zeros(60) + "1", "." + zeros(60) + "1", "0." + nines(61), "0." + zeros(60) + "10", zeros(10) + nines(61), ten(100), ten(100000), "0." + zeros(100000) + "1", "1" + zeros(60) + "." + zeros(60)} {
			a, e := decimal.Read(sign + s)
			is(t, "Read of "+sign+s, a, e, api.Decimal{}, api.ErrRange)
		}
	}
}

// TestReadLong has long texts whose numbers are short.
func TestReadLong(t *testing.T) { // P5.2
	long := zeros(100000)
	for s, want := range map[string]string{
		long: "0", "-" + long: "0", "." + long: "0", long + ".": "0", "-" + long + "." + long: "0", long + "1": "1", "-" + long + "12." + long: "-12", "+1." + long: "1", long + ".5" + long: "0.5", "." + nines(60) + long: "0." + nines(60), long + nines(60): nines(60), "-" + long + nines(30) + "." + nines(30) + long: "-" + nines(30) + "." + nines(30), long + "." + zeros(59) + "1" + long: ten(-60),
	} {
		a, e := decimal.Read(s)
		is(t, "Read of a long text", a, e, dec(want), api.OK)
		a, e = decimal.Read(s + "x")
		is(t, "Read of a long text with x", a, e, api.Decimal{}, api.ErrForm)
	}
}

func TestReadAgrees(t *testing.T) { // P5.2
	met := results{}
	agrees := func(s string) {
		t.Helper()
		a, e := decimal.Read(s)
		want, wanted := modelRead(s)
		is(t, "Read of "+s, a, e, want, wanted)
		met.met("Read", e)
	}
	for _, s := range strings4("+-.015 x") {
		for _, behind := range []string{"", "0", ".", "1", ".0", "1-"} {
			agrees(s + behind)
		}
	}
	for b := range 256 {
		c := string([]byte{byte(b)})
		for _, s := range []string{c, c + "1", "1" + c, "1" + c + "1", "-" + c, "-" + c + "1", "1." + c, "." + c + "1", c + c, "1" + c + c} {
			agrees(s)
		}
	}
	d := dice(2)
	for range 20000 {
		s := d.of("", "", "-", "+") + d.of("", "0", zeros(70)) + d.digits(d.size()) + d.of("", ".", ".") + d.digits(d.size()) + d.of("", "0", zeros(70))
		if d.below(6) == 0 {
			at := d.below(len(s) + 1)
			s = s[:at] + d.of(".", "-", "+", " ", "x", "\x00", "e1") + s[at:]
		}
		agrees(s)
	}
	met.atLeast(t, 1000, "Read 0", "Read 6", "Read 7")
}

func TestText(t *testing.T) { // P5.2
	for _, s := range []string{"0", "1", "-1", "10", "-100", "0.5", "-0.5", "0.05", "7.5", "-12.34", "120", "12.5", "10.1", "100.001", "0.001", "-0.0012", "0.1200001", "1000000000", "999999999.999999999", "0.000000001", nines(60), "-" + nines(60), ten(59), nines(30) + "." + nines(30), "0." + nines(60), "-0." + nines(60), "9." + nines(59), nines(59) + ".9", ten(-60), "-" + ten(-60), "0." + zeros(30) + nines(30), ten(-59), "0.0" + nines(59), "-0.0" + nines(58)} {
		if text, e := decimal.Text(dec(s)); text != s || e != api.OK {
			t.Errorf("Text of %v: %s, %d", dec(s), text, e)
		}
	}
	for scale, want := range []string{"123", "12.3", "1.23", "0.123", "0.0123", "0.00123"} {
		if text, e := decimal.Text(api.Decimal{Digits: "123", Scale: scale}); text != want || e != api.OK {
			t.Errorf("Text of 123 by %d: %s, %d", scale, text, e)
		}
	}
}

// case2 is what two decimals come to, or an error.
type case2 struct {
	a, b, want string
	e          api.Errno
}

// run checks a function at two decimals.
func run(t *testing.T, name string, f func(a, b api.Decimal) (api.Decimal, api.Errno), l []case2) {
	t.Helper()
	for _, c := range l {
		want := api.Decimal{}
		if c.e == api.OK {
			want = dec(c.want)
		}
		x, e := f(dec(c.a), dec(c.b))
		is(t, name+" of "+c.a+" and "+c.b, x, e, want, c.e)
	}
}

func TestAdd(t *testing.T) { // P5.3
	run(t, "Add", decimal.Add, []case2{
		{"0.1", "0.2", "0.3", 0}, {"0", "0", "0", 0}, {"0", "-5", "-5", 0}, {"1.5", "1.5", "3", 0}, {"-1.5", "1.5", "0", 0}, {"1.5", "-1.5", "0", 0}, {"-2", "0.5", "-1.5", 0}, {"2", "-0.5", "1.5", 0}, {"0.5", "-2", "-1.5", 0}, {"-0.5", "2", "1.5", 0}, {"-1", "-2", "-3", 0}, {"0.99", "0.01", "1", 0}, {"9.5", "0.5", "10", 0}, {"0.05", "0.05", "0.1", 0},
		{"999999999", "1", "1000000000", 0}, {"999999999999999999", "1", "1000000000000000000", 0}, {"1000000000", "-1", "999999999", 0}, {"1000000000000000000", "-1", "999999999999999999", 0}, {"-1000000000", "0.000000001", "-999999999.999999999", 0}, {"500000000", "500000000", "1000000000", 0},
		{nines(60), "-1", nines(59) + "8", 0}, {nines(59), "1", ten(59), 0}, {ten(59), "-1", nines(59), 0}, {nines(60), "1", "", api.ErrRange}, {"-" + nines(60), "-1", "", api.ErrRange}, {nines(60), nines(60), "", api.ErrRange}, {nines(60), "-" + nines(60), "0", 0}, {"-" + nines(60), nines(60), "0", 0}, {nines(60), "0", nines(60), 0}, {"5" + zeros(59), "5" + zeros(59), "", api.ErrRange},
		{ten(59), "0.1", "", api.ErrRange}, {ten(59), "-0.1", nines(59) + ".9", 0}, {ten(58), "0.1", ten(58) + ".1", 0}, {"-" + ten(58), "-0.1", "-" + ten(58) + ".1", 0}, {ten(58), "0.01", "", api.ErrRange}, {nines(60), "0.1", "", api.ErrRange}, {nines(60), "-0.1", "", api.ErrRange},
		{"1", ten(-60), "", api.ErrRange}, {"0.9", ten(-60), "0.9" + zeros(58) + "1", 0}, {"1", "-" + ten(-60), "0." + nines(60), 0}, {"0." + nines(60), ten(-60), "1", 0}, {"0.5", "-0." + nines(60), "-0.4" + nines(59), 0}, {ten(59), ten(-60), "", api.ErrRange}, {ten(59), "-" + ten(-60), "", api.ErrRange}, {ten(-60), ten(-60), "0." + zeros(59) + "2", 0}, {ten(-60), "-" + ten(-60), "0", 0},
		// the sum of the digits is one longer than the decimal
		{nines(30) + "." + nines(29) + "5", "0." + zeros(29) + "5", ten(30), 0}, {nines(59) + ".9", "0.1", ten(59), 0}, {"0." + nines(60), "0." + zeros(58) + "11", "1." + zeros(58) + "1", 0}, {"0." + nines(60), "0." + zeros(59) + "2", "", api.ErrRange},
	})
}

func TestSub(t *testing.T) { // P5.3
	run(t, "Sub", decimal.Sub, []case2{
		{"1", "1", "0", 0}, {"0", "0", "0", 0}, {"0", "5", "-5", 0}, {"0", "-5", "5", 0}, {"5", "0", "5", 0}, {"-5", "0", "-5", 0}, {"3", "5", "-2", 0}, {"5", "3", "2", 0}, {"-1", "2", "-3", 0}, {"-1", "-2", "1", 0}, {"-2", "-1", "-1", 0}, {"1", "-2", "3", 0}, {"-1.5", "-1.5", "0", 0}, {"0.3", "0.1", "0.2", 0}, {"1", "0.9", "0.1", 0}, {"10", "9.99", "0.01", 0},
		{"1000000000", "0.000000001", "999999999.999999999", 0}, {"0.000000001", "1000000000", "-999999999.999999999", 0}, {"1000000000000000000", "1", "999999999999999999", 0},
		{nines(60), nines(60), "0", 0}, {nines(60), "-1", "", api.ErrRange}, {"-" + nines(60), "1", "", api.ErrRange}, {"-" + nines(60), "-1", "-" + nines(59) + "8", 0}, {"1", "0." + nines(60), ten(-60), 0}, {"0." + nines(60), "1", "-" + ten(-60), 0}, {"1", ten(-60), "0." + nines(60), 0}, {"2", ten(-60), "", api.ErrRange}, {ten(59), "0.1", nines(59) + ".9", 0}, {ten(59), "0.01", "", api.ErrRange},
	})
}

func TestMul(t *testing.T) { // P5.3
	run(t, "Mul", decimal.Mul, []case2{
		{"-1.5", "0.2", "-0.3", 0}, {"0", "-5", "0", 0}, {"-5", "0", "0", 0}, {"0", "0", "0", 0}, {"1", "-1", "-1", 0}, {"-1", "-1", "1", 0}, {"2.5", "4", "10", 0}, {"0.5", "0.5", "0.25", 0}, {"0.2", "0.5", "0.1", 0}, {"-12.5", "-0.08", "1", 0}, {"100", "0.01", "1", 0}, {"20", "50", "1000", 0},
		{"999999999", "999999999", "999999998000000001", 0}, {"999999999999", "999999999999", "999999999998000000000001", 0}, {"1000000000", "1000000000", ten(18), 0}, {nines(18), nines(18), nines(17) + "8" + zeros(17) + "1", 0}, {nines(30), nines(30), nines(29) + "8" + zeros(29) + "1", 0}, {"-0." + nines(30), "0." + nines(30), "-0." + nines(29) + "8" + zeros(29) + "1", 0},
		{ten(30), ten(30), "", api.ErrRange}, {ten(30), ten(29), ten(59), 0}, {"-" + ten(30), "9" + zeros(29), "-9" + zeros(59), 0}, {"2" + zeros(30), "5" + zeros(28), ten(59), 0}, {"2" + zeros(30), "5" + zeros(29), "", api.ErrRange}, {nines(60), "1", nines(60), 0}, {nines(60), "-1", "-" + nines(60), 0}, {nines(60), "2", "", api.ErrRange}, {nines(60), nines(60), "", api.ErrRange}, {"0." + nines(60), "0." + nines(60), "", api.ErrRange}, {nines(60), "0", "0", 0}, {nines(60), "0.1", nines(59) + ".9", 0}, {nines(60), ten(-60), "0." + nines(60), 0}, {nines(60), "0." + nines(60), "", api.ErrRange},
		{ten(-30), ten(-30), ten(-60), 0}, {ten(-30), ten(-31), "", api.ErrRange}, {"0." + zeros(29) + "2", "0." + zeros(30) + "5", ten(-60), 0}, {"0." + zeros(30) + "2", "0." + zeros(30) + "5", "", api.ErrRange}, {"0." + zeros(59) + "2", "0.5", ten(-60), 0}, {ten(-60), "0.5", "", api.ErrRange}, {ten(-60), "-" + ten(-60), "", api.ErrRange}, {"0." + zeros(59) + "4", "0.25", ten(-60), 0}, {ten(-60), ten(59), "0.1", 0},
		// the product of these digits is 1 with 85 zeros
		{"0.258493941422821148397315216271863391739316284656524658203125", "38685626227668133590597632", ten(25), 0}, {"-2584939414228211483973152162718633917393.16284656524658203125", "3868562622766813.3590597632", "-" + ten(55), 0}, {"38685626227668133590597632", "0.258493941422821148397315216271863391739316284656524658203125", ten(25), 0}, {"258493941422821148397315216271863391739316284656524658203125", "0.38685626227668133590597632", ten(59), 0}, {"258493941422821148397315216271863391739316284656524658203125", "3.8685626227668133590597632", "", api.ErrRange},
	})
}

func TestNeg(t *testing.T) { // P5.3
	for s, want := range map[string]string{"0": "0", "1": "-1", "-1": "1", "0.5": "-0.5", "-12.34": "12.34", nines(60): "-" + nines(60), "-" + nines(60): nines(60), ten(-60): "-" + ten(-60)} {
		a, e := decimal.Neg(dec(s))
		is(t, "Neg of "+s, a, e, dec(want), api.OK)
	}
}

func TestCmp(t *testing.T) { // P5.3
	l := []string{"-" + nines(60), "-" + nines(59) + "8", "-" + ten(59), "-" + nines(59) + ".9", "-10", "-9.99", "-9", "-1.1", "-1", "-0." + nines(60), "-0.5", "-0.1", "-0.09", "-" + ten(-59), "-" + ten(-60), "0", ten(-60), "0." + zeros(59) + "2", ten(-59), "0.09", "0.1", "0.11", "0.5", "0." + nines(59), "0." + nines(60), "1", "1." + zeros(58) + "1", "1.1", "2", "9", "9.99", "10", "11", "100", "999999999", "1000000000", "1000000000.5", "1000000001", "10000000000", nines(59) + ".9", ten(59), "1" + zeros(58) + "1", nines(59) + "8", nines(60)}
	for i, a := range l {
		for k, b := range l {
			want := 0
			if i < k {
				want = -1
			} else if i > k {
				want = 1
			}
			if n, e := decimal.Cmp(dec(a), dec(b)); n != want || e != api.OK {
				t.Errorf("Cmp of %s and %s: %d, %d", a, b, n, e)
			}
		}
	}
}

func TestDiv(t *testing.T) { // P5.4
	for _, c := range []struct {
		a, b  string
		scale int
		want  string
	}{
		{"2", "3", 4, "0.6666"}, {"-7", "2", 0, "-3"}, {"7", "-2", 0, "-3"}, {"-7", "-2", 0, "3"}, {"7", "2", 0, "3"}, {"-2", "3", 4, "-0.6666"}, {"2", "-3", 1, "-0.6"}, {"8", "2", 0, "4"}, {"1", "8", 3, "0.125"}, {"1", "8", 2, "0.12"}, {"-1", "8", 2, "-0.12"}, {"1", "8", 60, "0.125"}, {"1", "0.0625", 0, "16"}, {"0.3", "0.1", 0, "3"}, {"100", "10", 5, "10"}, {"199", "100", 0, "1"}, {"-199", "100", 0, "-1"}, {"1.99", "1", 1, "1.9"}, {"0.125", "1", 2, "0.12"}, {"0.129", "1", 2, "0.12"}, {"0.001", "1000", 6, "0.000001"}, {"0.001", "1000", 5, "0"},
		{"0", "7", 60, "0"}, {"0", "-7", 0, "0"}, {"-1", "3", 0, "0"}, {"1", "-3", 0, "0"}, {"-0.05", "1", 1, "0"}, {"-1", nines(60), 59, "0"}, {"-1", nines(60), 60, "-" + ten(-60)},
		{"1", "3", 60, "0." + strings.Repeat("3", 60)}, {"2", "3", 60, "0." + strings.Repeat("6", 60)}, {"1", "3", 59, "0." + strings.Repeat("3", 59)}, {"10", "3", 59, "3." + strings.Repeat("3", 59)}, {"999999999999999999", "999999999", 0, "1000000001"}, {"1000000000000000000", "1000000000", 0, "1000000000"}, {"999999999999999998", "999999999", 0, "1000000000"},
		{nines(60), "1", 60, nines(60)}, {nines(60), nines(60), 60, "1"}, {nines(60), "-" + nines(59) + "8", 59, "-1"}, {nines(60), "-" + nines(59) + "8", 60, ""}, {nines(60), "0." + nines(60), 60, ""}, {ten(-60), ten(-60), 60, "1"}, {ten(-60), nines(60), 60, "0"}, {ten(-60), "2", 60, "0"}, {ten(-60), "1", 60, ten(-60)}, {ten(-60), "0.1", 60, ten(-59)}, {ten(-60), ten(59), 60, "0"}, {"5" + zeros(58), ten(-1), 60, "5" + zeros(59)}, {nines(59), "0.1", 60, nines(59) + "0"}, {"4" + zeros(59), "0.5", 60, "8" + zeros(59)}, {ten(59), "0." + zeros(30) + "1", 0, ""}, {nines(60), "0.1", 0, ""}, {"-" + nines(60), "0.1", 0, ""}, {ten(59), "0.1", 0, ""}, {ten(59), "0.2", 60, "5" + zeros(59)}, {ten(59), ten(-60), 60, ""}, {nines(60), "7", 60, strings.Repeat("142857", 10)}, {nines(60), "17", 60, ""}, {nines(60), "17", 0, "58823529411764705882352941176470588235294117647058823529411"}, {nines(60), "9", 60, strings.Repeat("1", 60)}, {"1", "0." + nines(60), 60, ""}, {"1", "0." + nines(60), 59, "1"},
	} {
		x, e := decimal.Div(dec(c.a), dec(c.b), c.scale)
		if c.want == "" {
			is(t, fmt.Sprint("Div of ", c.a, " by ", c.b, " with ", c.scale), x, e, api.Decimal{}, api.ErrRange)
		} else {
			is(t, fmt.Sprint("Div of ", c.a, " by ", c.b, " with ", c.scale), x, e, dec(c.want), api.OK)
		}
	}
	for _, a := range []string{"0", "1", "-2.5", nines(60), ten(-60)} {
		for _, scale := range []int{0, 1, 60, -1, 61} {
			x, e := decimal.Div(dec(a), dec("0"), scale)
			is(t, "Div by 0", x, e, api.Decimal{}, api.ErrArg)
		}
		for _, scale := range []int{-1, 61, -60, 62, 120, math.MaxInt, math.MinInt} {
			for _, b := range []string{"1", "-1", "0.1", nines(60), ten(-60)} {
				x, e := decimal.Div(dec(a), dec(b), scale)
				is(t, fmt.Sprint("Div with ", scale), x, e, api.Decimal{}, api.ErrArg)
			}
		}
	}
}

func TestDigits(t *testing.T) { // P5.5
	for s, want := range map[string][2]int{"0": {1, 0}, "1": {1, 0}, "-1": {1, 0}, "10": {2, 0}, "120": {3, 0}, "12.5": {3, 1}, "-12.5": {3, 1}, "0.1": {1, 1}, "0.5": {1, 1}, "0.001": {3, 3}, "0.012": {3, 3}, "0.123": {3, 3}, "1.123": {4, 3}, "10.01": {4, 2}, nines(60): {60, 0}, ten(59): {60, 0}, ten(-60): {60, 60}, "-0." + nines(60): {60, 60}, "9." + nines(59): {60, 59}, "0.0" + nines(59): {60, 60}, ten(-30): {30, 30}} {
		if total, fraction, e := decimal.Digits(dec(s)); total != want[0] || fraction != want[1] || e != api.OK {
			t.Errorf("Digits of %s: %d, %d, %d", s, total, fraction, e)
		}
	}
}

func TestRound(t *testing.T) { // P5.5
	for _, c := range []struct {
		a     string
		scale int
		want  string
	}{
		{"2.5", 0, "2"}, {"3.5", 0, "4"}, {"-0.125", 2, "-0.12"}, {"-0.135", 2, "-0.14"}, {"-2.5", 0, "-2"}, {"-3.5", 0, "-4"}, {"0.125", 2, "0.12"}, {"0.375", 2, "0.38"}, {"0.5", 0, "0"}, {"1.5", 0, "2"}, {"0.15", 1, "0.2"}, {"0.25", 1, "0.2"}, {"0.05", 1, "0"}, {"10.5", 0, "10"}, {"11.5", 0, "12"}, {"9.5", 0, "10"}, {"8.5", 0, "8"}, {"19.5", 0, "20"}, {"1000000000.5", 0, "1000000000"}, {"1000000001.5", 0, "1000000002"}, {"999999999.5", 0, "1000000000"},
		{"2.4", 0, "2"}, {"2.6", 0, "3"}, {"2.49", 0, "2"}, {"2.51", 0, "3"}, {"2.500000000000000000001", 0, "3"}, {"2.499999999999999999999", 0, "2"}, {"-2.51", 0, "-3"}, {"-2.49", 0, "-2"}, {"0.51", 0, "1"}, {"0.49", 0, "0"}, {"0.4", 0, "0"}, {"0.126", 2, "0.13"}, {"0.1250001", 2, "0.13"}, {"0.1249999", 2, "0.12"},
		{"-0.5", 0, "0"}, {"-0.4", 0, "0"}, {"-0.05", 1, "0"}, {"-0.04", 1, "0"}, {"-0.06", 1, "-0.1"}, {"-0.51", 0, "-1"}, {"0.05", 0, "0"}, {"-0.0099", 1, "0"}, {"0.09", 0, "0"}, {"0.0051", 2, "0.01"}, {"0.005", 2, "0"}, {"0.015", 2, "0.02"}, {ten(-60), 0, "0"}, {"-" + ten(-60), 59, "0"}, {"0." + zeros(59) + "5", 59, "0"}, {"0." + zeros(59) + "6", 59, ten(-59)}, {"0." + zeros(59) + "6", 58, "0"}, {"-0." + zeros(58) + "15", 59, "-0." + zeros(58) + "2"},
		{"9.99", 1, "10"}, {"9.95", 1, "10"}, {"9.94", 1, "9.9"}, {"0.99", 1, "1"}, {"-99.5", 0, "-100"}, {"1.96", 1, "2"}, {"1.95", 1, "2"}, {"1.85", 1, "1.8"}, {"1.04", 1, "1"}, {"1.004", 2, "1"}, {"0." + nines(60), 59, "1"}, {"0." + nines(60), 0, "1"}, {"-" + nines(59) + ".9", 0, "-" + ten(59)}, {nines(59) + ".4", 0, nines(59)}, {nines(59) + ".5", 0, ten(59)}, {nines(58) + "8.5", 0, nines(58) + "8"}, {nines(58) + ".95", 1, ten(58)}, {"9." + nines(59), 58, "10"},
		{"0", 0, "0"}, {"0", 60, "0"}, {"120", 0, "120"}, {"120", 60, "120"}, {"1.25", 2, "1.25"}, {"1.25", 5, "1.25"}, {"-1.25", 60, "-1.25"}, {nines(60), 0, nines(60)}, {nines(60), 60, nines(60)}, {ten(-60), 60, ten(-60)}, {"-0." + nines(60), 60, "-0." + nines(60)},
	} {
		x, e := decimal.Round(dec(c.a), c.scale)
		is(t, fmt.Sprint("Round of ", c.a, " to ", c.scale), x, e, dec(c.want), api.OK)
	}
	for _, a := range []string{"0", "1", "-2.5", nines(60), ten(-60)} {
		for _, scale := range []int{-1, 61, -60, 62, 120, math.MaxInt, math.MinInt} {
			x, e := decimal.Round(dec(a), scale)
			is(t, fmt.Sprint("Round to ", scale), x, e, api.Decimal{}, api.ErrArg)
		}
	}
}

// TestWrongDecimals hands decimals that are not valid to all functions, also with what would be out of range.
func TestWrongDecimals(t *testing.T) { // P5.1 to P5.5
	none := api.Decimal{}
	for _, a := range wrong() {
		name := fmt.Sprint(a)
		if s, e := decimal.Text(a); s != "" || e != api.ErrArg {
			t.Errorf("Text of %s: %s, %d", name, s, e)
		}
		if total, fraction, e := decimal.Digits(a); total != 0 || fraction != 0 || e != api.ErrArg {
			t.Errorf("Digits of %s: %d, %d, %d", name, total, fraction, e)
		}
		x, e := decimal.Neg(a)
		is(t, "Neg of "+name, x, e, none, api.ErrArg)
		for _, b := range []api.Decimal{dec("1"), dec("0"), dec("-" + nines(60)), dec(nines(60)), dec(ten(-60)), a} {
			for i, f := range []func(a, b api.Decimal) (api.Decimal, api.Errno){decimal.Add, decimal.Sub, decimal.Mul} {
				x, e := f(a, b)
				is(t, fmt.Sprint(i, " of ", name, " and ", b), x, e, none, api.ErrArg)
				x, e = f(b, a)
				is(t, fmt.Sprint(i, " of ", b, " and ", name), x, e, none, api.ErrArg)
			}
			n, e := decimal.Cmp(a, b)
			m, e2 := decimal.Cmp(b, a)
			if n != 0 || m != 0 || e != api.ErrArg || e2 != api.ErrArg {
				t.Errorf("Cmp of %s and %v: %d, %d, %d, %d", name, b, n, m, e, e2)
			}
			for _, scale := range []int{0, 2, 60, -1, 61, math.MaxInt, math.MinInt} {
				x, e := decimal.Div(a, b, scale)
				is(t, "Div of "+name, x, e, none, api.ErrArg)
				x, e = decimal.Div(b, a, scale)
				is(t, "Div by "+name, x, e, none, api.ErrArg)
				x, e = decimal.Round(a, scale)
				is(t, "Round of "+name, x, e, none, api.ErrArg)
			}
		}
	}
}
