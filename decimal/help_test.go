package decimal_test

import (
	"fmt"
	"math"
	"math/big"
	"regexp"
	"strings"
	"testing"

	"gabarit/api"
)

func zeros(n int) string { return strings.Repeat("0", n) }

func nines(n int) string { return strings.Repeat("9", n) }

// ten is the text of 10, n times multiplied with itself, or divided by itself.
func ten(n int) string {
	if n < 0 {
		return "0." + zeros(-n-1) + "1"
	}
	return "1" + zeros(n)
}

// dec is the decimal of a canonical text.
func dec(text string) api.Decimal {
	unsigned, neg := strings.CutPrefix(text, "-")
	whole, behind, _ := strings.Cut(unsigned, ".")
	digits := strings.TrimLeft(whole+behind, "0")
	if digits == "" {
		digits = "0"
	}
	return api.Decimal{Neg: neg, Digits: digits, Scale: len(behind)}
}

// wrong are decimals that are not valid, though all of them but a few write a number.
func wrong() []api.Decimal {
	l := []api.Decimal{
		{}, {Neg: true}, {Scale: 1}, {Scale: -1}, {Neg: true, Scale: 60},
		{Neg: true, Digits: "0"}, {Digits: "0", Scale: 1}, {Digits: "0", Scale: 60}, {Digits: "0", Scale: -1}, {Neg: true, Digits: "0", Scale: 1}, {Digits: "0", Scale: 61},
		{Digits: "00"}, {Digits: "01"}, {Digits: "0012"}, {Digits: "05", Scale: 1}, {Digits: "05", Scale: 2}, {Neg: true, Digits: "05", Scale: 2}, {Digits: "00", Scale: 1}, {Digits: zeros(60)}, {Digits: "0" + nines(59)}, {Digits: zeros(59) + "1", Scale: 60},
		{Digits: "10", Scale: 1}, {Digits: "10", Scale: 60}, {Digits: "120", Scale: 2}, {Digits: "100", Scale: 1}, {Neg: true, Digits: "10", Scale: 3}, {Digits: ten(59), Scale: 1}, {Digits: ten(59), Scale: 60},
		{Digits: nines(61)}, {Digits: ten(60)}, {Digits: ten(60), Scale: 1}, {Digits: "1" + zeros(59) + "1", Scale: 1}, {Digits: nines(61), Scale: 30}, {Digits: nines(1000)}, {Digits: zeros(61)}, {Digits: "0" + nines(60)}, {Neg: true, Digits: nines(61)},
		{Digits: "1", Scale: 61}, {Digits: "1", Scale: -1}, {Digits: "5", Scale: math.MaxInt}, {Digits: "5", Scale: math.MinInt}, {Digits: "10", Scale: -1}, {Digits: nines(60), Scale: 61}, {Digits: "1", Scale: 120}, {Neg: true, Digits: "1", Scale: 61},
		{Digits: "-1"}, {Digits: "+1"}, {Digits: "1.5"}, {Digits: " 1"}, {Digits: "1 "}, {Digits: "1e3"}, {Digits: "x"}, {Digits: "1x2"}, {Digits: "1\x002"}, {Digits: "\xff"}, {Digits: "1\n"}, {Digits: "\u0661"}, {Digits: "1\u0661"}, {Digits: "1_000"}, {Digits: "0x1"}, {Digits: "."}, {Digits: ".", Scale: 1}, {Digits: "-"}, {Digits: "1/", Scale: 1}, {Digits: "1:", Scale: 1}, {Neg: true, Digits: "-1"},
	}
	for b := range 256 {
		if b < '0' || b > '9' {
			s := string([]byte{byte(b)})
			l = append(l, api.Decimal{Digits: s}, api.Decimal{Digits: "1" + s}, api.Decimal{Digits: s + "1", Scale: 1}, api.Decimal{Digits: "1" + s + "1", Scale: 2})
		}
	}
	return l
}

var canonicalDigits = regexp.MustCompile(`^[1-9][0-9]{0,59}$`)

// modelValid says what a valid decimal is in other words than the program does.
func modelValid(a api.Decimal) bool {
	if a == (api.Decimal{Digits: "0"}) {
		return true
	}
	wholeOrShort := a.Scale == 0 || !strings.HasSuffix(a.Digits, "0")
	return canonicalDigits.MatchString(a.Digits) && wholeOrShort && a.Scale >= 0 && a.Scale <= 60
}

func power(n int) *big.Int {
	return new(big.Int).Exp(big.NewInt(10), big.NewInt(int64(n)), nil)
}

func over(n, by *big.Int) *big.Rat { return new(big.Rat).SetFrac(n, by) }

func times(x, y *big.Rat) *big.Rat { return new(big.Rat).Mul(x, y) }

// value is the number of a valid decimal.
func value(a api.Decimal) *big.Rat {
	n, _ := new(big.Int).SetString(a.Digits, 10)
	if a.Neg {
		n.Neg(n)
	}
	return over(n, power(a.Scale))
}

// decimalOf is the decimal of a number; ErrRange if there is none.
func decimalOf(x *big.Rat) (api.Decimal, api.Errno) {
	n := times(x, new(big.Rat).SetInt(power(60)))
	if !n.IsInt() {
		return api.Decimal{}, api.ErrRange
	}
	if n.Sign() == 0 {
		return api.Decimal{Digits: "0"}, api.OK
	}
	digits := new(big.Int).Abs(n.Num()).String()
	behind := min(60, len(digits)-len(strings.TrimRight(digits, "0")))
	digits = digits[:len(digits)-behind]
	if len(digits) > 60 {
		return api.Decimal{}, api.ErrRange
	}
	return api.Decimal{Neg: x.Sign() < 0, Digits: digits, Scale: 60 - behind}, api.OK
}

// modelDiv leaves what is behind the last digit away.
func modelDiv(a, b api.Decimal, scale int) (api.Decimal, api.Errno) {
	if !modelValid(a) || !modelValid(b) || b.Digits == "0" || scale < 0 || scale > 60 {
		return api.Decimal{}, api.ErrArg
	}
	x := times(new(big.Rat).Quo(value(a), value(b)), new(big.Rat).SetInt(power(scale)))
	return decimalOf(over(new(big.Int).Quo(x.Num(), x.Denom()), power(scale)))
}

// modelRound chooses among the numbers below and above.
func modelRound(a api.Decimal, scale int) (api.Decimal, api.Errno) {
	if !modelValid(a) || scale < 0 || scale > 60 {
		return api.Decimal{}, api.ErrArg
	}
	x := times(value(a), new(big.Rat).SetInt(power(scale)))
	below := new(big.Int).Div(x.Num(), x.Denom())
	above := new(big.Int).Add(below, big.NewInt(1))
	toBelow := new(big.Rat).Sub(x, new(big.Rat).SetInt(below))
	toAbove := new(big.Rat).Sub(new(big.Rat).SetInt(above), x)
	nearest := below
	if c := toBelow.Cmp(toAbove); c > 0 || c == 0 && below.Bit(0) == 1 {
		nearest = above
	}
	return decimalOf(over(nearest, power(scale)))
}

var numberForm = regexp.MustCompile(`^[+-]?([0-9]+\.?[0-9]*|\.[0-9]+)$`)

func modelRead(s string) (api.Decimal, api.Errno) {
	if !numberForm.MatchString(s) {
		return api.Decimal{}, api.ErrForm
	}
	digits := strings.Trim(s, "+-")
	behind := 0
	if i := strings.IndexByte(digits, '.'); i >= 0 {
		behind = len(digits) - i - 1
	}
	n, _ := new(big.Int).SetString(strings.Replace(digits, ".", "", 1), 10)
	if s[0] == '-' {
		n.Neg(n)
	}
	return decimalOf(over(n, power(behind)))
}

// is checks that a function returned this decimal and this error.
func is(t *testing.T, what string, a api.Decimal, e api.Errno, want api.Decimal, wanted api.Errno) {
	t.Helper()
	if a != want || e != wanted {
		t.Fatalf("%.300s: %v, %d, not %v, %d", what, a, e, want, wanted)
	}
}

// results counts errors, to tell that all of them were met.
type results map[string]int

func (r results) met(what string, e api.Errno) { r[fmt.Sprint(what, " ", e)]++ }

func (r results) atLeast(t *testing.T, n int, all ...string) {
	t.Helper()
	for _, s := range all {
		if r[s] < n {
			t.Errorf("%s only %d times", s, r[s])
		}
	}
}

// dice is a repeatable source of numbers.
type dice uint32

func (d *dice) below(n int) int {
	*d = *d*1664525 + 1013904223
	return int(*d>>8) % n
}

func (d *dice) of(l ...string) string { return l[d.below(len(l))] }

// digits is n digits in runs, as they stand at the ends of ranges, or mixed.
func (d *dice) digits(n int) string {
	s := ""
	for len(s) < n {
		switch d.below(4) {
		case 0:
			s += strings.Repeat(d.of("0", "9"), 1+d.below(20))
		case 1:
			s += d.of("5", "49", "50", "1", "999999999", "000000000", "000000001", "1000000000")
		default:
			s += fmt.Sprint(d.below(1000))
		}
	}
	return s[:n]
}

// smooth is a product of twos and fives with at most 60 digits: products and quotients of such numbers are short.
func (d *dice) smooth() string {
	n := big.NewInt(1)
	for i := d.below(200); i > 0; i-- {
		n.Mul(n, big.NewInt([]int64{2, 5}[d.below(2)]))
	}
	if d.below(3) == 0 {
		n.Exp(big.NewInt([]int64{2, 5}[d.below(2)]), big.NewInt(int64(d.below(200))), nil)
	}
	s := strings.TrimRight(n.String(), "0")
	return s[:min(len(s), 60)]
}

// size is a number of digits from 0 to 60, often near 0, 9 or 60.
func (d *dice) size() int {
	switch d.below(4) {
	case 0:
		return 60 - d.below(3)
	case 1:
		return d.below(4)
	case 2:
		return 9*d.below(6) + d.below(3)
	}
	return d.below(61)
}

// decimal is a valid decimal.
func (d *dice) decimal() api.Decimal {
	digits := d.digits(max(d.size(), 1))
	if d.below(4) == 0 {
		digits = d.smooth()
	}
	digits = strings.TrimLeft(digits, "0")
	a := api.Decimal{Neg: d.below(2) == 0, Digits: digits, Scale: d.size()}
	if a.Scale > 0 {
		a.Digits = strings.TrimRight(digits, "0")
	}
	if a.Digits == "" {
		return api.Decimal{Digits: "0"}
	}
	return a
}

// near is a decimal that differs from another one little or much.
func (d *dice) near(a api.Decimal) api.Decimal {
	switch b := a; d.below(6) {
	case 0:
		b.Neg = !b.Neg
		if modelValid(b) {
			return b
		}
	case 1:
		b.Scale += d.below(5) - 2
		if modelValid(b) {
			return b
		}
	case 2:
		b.Digits = b.Digits[:d.below(len(b.Digits))] + d.of("1", "2", "9")
		if modelValid(b) {
			return b
		}
	}
	return d.decimal()
}
