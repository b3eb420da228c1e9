package decimal

import (
	"cmp"
	"slices"
	"strconv"
	"strings"

	"gabarit/api"
)

const (
	partDigits = 9
	base       = 1000000000 // a part is less
)

// maxDigits is how many digits a number has at most: a sum of two decimals that are aligned, or what is left in a division with a digit behind it. Products have fewer.
const maxDigits = 2*api.MaxDigits + 1

// natural is a number from 0 on, in parts of nine digits each, the lowest one first.
type natural [(maxDigits + partDigits - 1) / partDigits]int64

func naturalOf(digits string) natural {
	var x natural
	for i := range len(digits) {
		part := &x[(len(digits)-1-i)/partDigits]
		*part = *part*10 + int64(digits[i]-'0')
	}
	return x
}

// digits returns the digits of all parts, with zeros in front.
func (x natural) digits() string {
	var b strings.Builder
	for _, part := range slices.Backward(x[:]) {
		digits := strconv.FormatInt(part, 10)
		b.WriteString(zeros(partDigits-len(digits)) + digits)
	}
	return b.String()
}

// isOdd needs the lowest part alone, because base is even.
func (x natural) isOdd() bool { return x[0]%2 == 1 }

// carrier returns a closure that is handed what each part of a result comes to, the lowest one first, and returns the part: what is too much for it, or what it lacks, is carried to the next one. The lowest part is handed a carry, too.
func carrier(carry int64) func(n int64) int64 {
	return func(n int64) int64 {
		n += carry
		carry = n / base
		n %= base
		if n < 0 {
			n, carry = n+base, carry-1
		}
		return n
	}
}

func sum(x, y natural) natural {
	part := carrier(0)
	for i := range x {
		x[i] = part(x[i] + y[i])
	}
	return x
}

// difference takes numbers of which the first one is not less.
func difference(x, y natural) natural {
	part := carrier(0)
	for i := range x {
		x[i] = part(x[i] - y[i])
	}
	return x
}

// tenfold returns ten times a number, and a digit behind it.
func tenfold(x natural, digit byte) natural {
	part := carrier(int64(digit - '0'))
	for i := range x {
		x[i] = part(10 * x[i])
	}
	return x
}

// product takes numbers of at most MaxDigits digits, in seven parts each: so many products of two parts add up to less than an int64 holds.
func product(x, y natural) natural {
	part := carrier(0)
	var z natural
	for i := range z {
		n := int64(0)
		for k := range i + 1 {
			n += x[k] * y[i-k]
		}
		z[i] = part(n)
	}
	return z
}

// quotient returns the digits of a quotient, rounded towards zero: it divides as one does by hand, digit by digit. The divisor is not 0.
func quotient(dividend string, divisor natural) string {
	digits := make([]byte, len(dividend))
	var rest natural
	for i := range digits {
		rest = tenfold(rest, dividend[i])
		digits[i] = '0'
		for compare(rest, divisor) >= 0 {
			rest = difference(rest, divisor)
			digits[i]++
		}
	}
	return string(digits)
}

func compare(x, y natural) int {
	for i, part := range slices.Backward(x[:]) {
		if part != y[i] {
			return cmp.Compare(part, y[i])
		}
	}
	return 0
}
