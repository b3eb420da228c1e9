package decimal

import (
	"strings"

	"gabarit/api"
)

// check returns ErrArg unless all decimals are valid.
func check(l ...api.Decimal) api.Errno {
	for _, a := range l {
		if !valid(a) {
			return api.ErrArg
		}
	}
	return api.OK
}

func valid(a api.Decimal) bool {
	if isZero(a) {
		return true
	}
	last := len(a.Digits) - 1
	return last < api.MaxDigits && areDigits(a.Digits) && a.Digits[0] != '0' && isScale(a.Scale) && (a.Scale == 0 || a.Digits[last] != '0')
}

func isZero(a api.Decimal) bool { return a == api.Decimal{Digits: "0"} }

func isScale(n int) bool { return 0 <= n && n <= api.MaxDigits }

// areDigits reports whether a text has digits, and nothing else.
func areDigits(s string) bool {
	for i := range len(s) {
		if s[i] < '0' || s[i] > '9' {
			return false
		}
	}
	return s != ""
}

// decimalOf returns the decimal of the number that digits write, divided by 10 as often as scale says; ErrRange if it has none.
func decimalOf(neg bool, digits string, scale int) (api.Decimal, api.Errno) {
	digits = strings.TrimLeft(digits, "0")
	if digits == "" {
		return api.Decimal{Digits: "0"}, api.OK
	}
	for scale > 0 && strings.HasSuffix(digits, "0") {
		digits, scale = digits[:len(digits)-1], scale-1
	}
	a := api.Decimal{Neg: neg, Digits: digits, Scale: scale}
	if !valid(a) {
		return api.Decimal{}, api.ErrRange
	}
	a.Digits = strings.Clone(digits) // they may be a few bytes of a long text, which would be kept with them
	return a, api.OK
}

func opposite(a api.Decimal) api.Decimal {
	a.Neg = !a.Neg && !isZero(a)
	return a
}

// aligned returns what two decimals are without their signs, multiplied by 10 as often as the scale says that it returns with them.
func aligned(a, b api.Decimal) (x, y natural, scale int) {
	scale = max(a.Scale, b.Scale)
	return naturalOf(a.Digits + zeros(scale-a.Scale)), naturalOf(b.Digits + zeros(scale-b.Scale)), scale
}

// zeros returns n zeros, none if n is negative.
func zeros(n int) string { return strings.Repeat("0", max(n, 0)) }

// cut returns the digits before the last n, and the last n. Zeros are put in front if there are fewer, and one more for a digit before.
func cut(digits string, n int) (before, last string) {
	digits = zeros(n+1-len(digits)) + digits
	at := len(digits) - n
	return digits[:at], digits[at:]
}
