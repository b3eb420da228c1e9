package decimal_test

import (
	"fmt"
	"math"
	"math/big"
	"testing"

	"gabarit/api"
	"gabarit/decimal"
)

// agree checks all functions of two decimals, and of the first one with some scales.
func agree(t *testing.T, a, b api.Decimal, scales []int, met results) {
	t.Helper()
	x, y, pair := value(a), value(b), fmt.Sprint(a, " and ", b)
	for _, f := range []struct {
		name  string
		f     func(a, b api.Decimal) (api.Decimal, api.Errno)
		model func(z, x, y *big.Rat) *big.Rat
	}{{"Add", decimal.Add, (*big.Rat).Add}, {"Sub", decimal.Sub, (*big.Rat).Sub}, {"Mul", decimal.Mul, (*big.Rat).Mul}} {
		want, wanted := decimalOf(f.model(new(big.Rat), x, y))
		z, e := f.f(a, b)
		is(t, f.name+" of "+pair, z, e, want, wanted)
		met.met(f.name, e)
	}
	n, e := decimal.Cmp(a, b)
	if n != x.Cmp(y) || e != api.OK {
		t.Fatalf("Cmp of %s: %d, %d", pair, n, e)
	}
	met[fmt.Sprint("Cmp ", n)]++
	for _, scale := range scales {
		want, wanted := modelDiv(a, b, scale)
		z, e := decimal.Div(a, b, scale)
		is(t, fmt.Sprint("Div of ", pair, " with ", scale), z, e, want, wanted)
		met.met("Div", e)
	}
}

// agreeAlone checks the functions of one decimal.
func agreeAlone(t *testing.T, a api.Decimal, scales []int, met results) {
	t.Helper()
	want, _ := decimalOf(new(big.Rat).Neg(value(a)))
	z, e := decimal.Neg(a)
	is(t, fmt.Sprint("Neg of ", a), z, e, want, api.OK)
	s, e := decimal.Text(a)
	if s != value(a).FloatString(a.Scale) || e != api.OK {
		t.Fatalf("Text of %v: %s, %d", a, s, e)
	}
	total, fraction, e := decimal.Digits(a)
	if total != max(len(a.Digits), a.Scale) || fraction != a.Scale || e != api.OK {
		t.Fatalf("Digits of %v: %d, %d, %d", a, total, fraction, e)
	}
	for _, scale := range scales {
		want, wanted := modelRound(a, scale)
		z, e := decimal.Round(a, scale)
		is(t, fmt.Sprint("Round of ", a, " to ", scale), z, e, want, wanted)
		met.met("Round", e)
	}
}

// TestSmallNumbers has all pairs of some small numbers.
func TestSmallNumbers(t *testing.T) { // P5.3 to P5.5
	seen := map[api.Decimal]bool{}
	for n := range int64(31) {
		for scale := range 3 {
			for _, sign := range []int64{-1, 1} {
				a, _ := decimalOf(over(big.NewInt(sign*n), power(scale)))
				seen[a] = true
			}
		}
	}
	met := results{}
	for a := range seen {
		for b := range seen {
			agree(t, a, b, []int{0, 1}, met)
		}
	}
	for n := range int64(6001) {
		for scale := range 4 {
			a, _ := decimalOf(over(big.NewInt(n-3000), power(scale)))
			agreeAlone(t, a, []int{0, 1, 2}, met)
		}
	}
	met.atLeast(t, 1000, "Add 0", "Sub 0", "Mul 0", "Div 0", "Cmp -1", "Cmp 1", "Round 0")
	met.atLeast(t, 100, "Div 2", "Cmp 0")
}

// TestNumbersAgree has numbers of all lengths.
func TestNumbersAgree(t *testing.T) { // P5.3 to P5.5
	d, met := dice(3), results{}
	for range 12000 {
		a := d.decimal()
		agree(t, a, d.near(a), []int{d.size(), d.below(70) - 5}, met)
		agreeAlone(t, a, []int{d.size(), a.Scale - 1, a.Scale, d.below(70) - 5}, met)
	}
	met.atLeast(t, 500, "Add 0", "Add 7", "Sub 0", "Sub 7", "Mul 0", "Mul 7", "Div 0", "Div 2", "Div 7", "Cmp -1", "Cmp 1", "Round 0", "Round 2")
	met.atLeast(t, 50, "Cmp 0")
}

// TestTies rounds numbers that are equally near to two others, and those a little beside them.
func TestTies(t *testing.T) { // P5.5, P5.7
	d, met := dice(4), results{}
	for range 6000 {
		scale := d.below(59)
		n, _ := new(big.Int).SetString(d.digits(1+d.below(59)), 10)
		n.Add(n.Mul(n, big.NewInt(10)), big.NewInt(5))
		if d.below(3) == 0 {
			n.Add(n.Mul(n, power(1)), big.NewInt(int64(d.below(3))-1))
			scale--
		}
		a, e := decimalOf(over(n, power(scale+1)))
		if e == api.OK && scale >= 0 {
			a.Neg = d.below(2) == 0
			agreeAlone(t, a, []int{scale}, met)
		}
	}
	met.atLeast(t, 2000, "Round 0")
}

func TestReadOfText(t *testing.T) { // P5.6
	d := dice(5)
	for range 10000 {
		a := d.decimal()
		s, _ := decimal.Text(a)
		back, e := decimal.Read(s)
		is(t, "Read of "+s, back, e, a, api.OK)
	}
}

func TestLaws(t *testing.T) { // P5.6
	d, met := dice(6), results{}
	for range 20000 {
		a := d.decimal()
		b := d.near(a)
		c := d.near(b)
		x, e := decimal.Add(a, b)
		y, e2 := decimal.Add(b, a)
		is(t, fmt.Sprint("Add of ", a, " and ", b), x, e, y, e2)
		if e == api.OK {
			back, e := decimal.Sub(x, b)
			is(t, fmt.Sprint("Sub of Add of ", a, " and ", b), back, e, a, api.OK)
			met.met("Sub", e)
		}
		p, e := decimal.Mul(a, c)
		q, e2 := decimal.Mul(c, a)
		is(t, fmt.Sprint("Mul of ", a, " and ", c), p, e, q, e2)
		r, e2 := decimal.Mul(b, c)
		s, e3 := decimal.Mul(x, c)
		if x == (api.Decimal{}) || e != api.OK || e2 != api.OK || e3 != api.OK {
			continue
		}
		z, e := decimal.Add(p, r)
		is(t, fmt.Sprint("Mul of ", a, " + ", b, " and ", c), z, e, s, api.OK)
		met.met("Add", e)
	}
	met.atLeast(t, 500, "Sub 0", "Add 0")
}

func TestQuotientsTimesDivisors(t *testing.T) { // P5.7
	d, met := dice(7), results{}
	for range 15000 {
		a := d.decimal()
		b, scale := d.near(a), d.size()
		z, e := decimal.Div(a, b, scale)
		if met.met("Div", e); e != api.OK {
			continue
		}
		product := times(value(z), value(b))
		left := new(big.Rat).Sub(value(a), product)
		if product.Abs(product).Cmp(new(big.Rat).Abs(value(a))) > 0 || new(big.Rat).Abs(left).Cmp(new(big.Rat).Abs(times(value(b), over(big.NewInt(1), power(scale))))) >= 0 || left.Sign()*value(a).Sign() < 0 {
			t.Fatalf("Div of %v by %v with %d: %v", a, b, scale, z)
		}
	}
	met.atLeast(t, 2000, "Div 0")
}

func TestRoundIsNear(t *testing.T) { // P5.7
	d := dice(8)
	for range 15000 {
		a, scale := d.decimal(), d.size()
		z, e := decimal.Round(a, scale)
		if e != api.OK || decimal.Check(z) != api.OK || z.Scale > scale {
			t.Fatalf("Round of %v to %d: %v, %d", a, scale, z, e)
		}
		left := new(big.Rat).Sub(value(a), value(z))
		if left.Abs(left).Cmp(over(big.NewInt(5), power(scale+1))) > 0 {
			t.Fatalf("Round of %v to %d: %v", a, scale, z)
		}
	}
}

// TestResultsAreValid looks at all results, whatever the arguments are.
func TestResultsAreValid(t *testing.T) { // R1, R2
	d, l := dice(9), wrong()
	for range 20000 {
		a, b, scale := d.decimal(), d.decimal(), []int{0, 1, 30, 59, 60, -1, 61, math.MaxInt, math.MinInt}[d.below(9)]
		if d.below(4) == 0 {
			a = l[d.below(len(l))]
		}
		if d.below(4) == 0 {
			b = l[d.below(len(l))]
		}
		for i, f := range []func() (api.Decimal, api.Errno){
			func() (api.Decimal, api.Errno) { return decimal.Add(a, b) },
			func() (api.Decimal, api.Errno) { return decimal.Sub(a, b) },
			func() (api.Decimal, api.Errno) { return decimal.Mul(a, b) },
			func() (api.Decimal, api.Errno) { return decimal.Div(a, b, scale) },
			func() (api.Decimal, api.Errno) { return decimal.Neg(a) },
			func() (api.Decimal, api.Errno) { return decimal.Round(a, scale) },
			func() (api.Decimal, api.Errno) { return decimal.Read(a.Digits) },
			func() (api.Decimal, api.Errno) { return decimal.Of(int64(scale)), api.OK },
		} {
			x, e := f()
			if again, e2 := f(); again != x || e2 != e {
				t.Fatalf("%d of %v, %v, %d: %v, %d, and then %v, %d", i, a, b, scale, x, e, again, e2)
			}
			if e == api.OK && !modelValid(x) || e != api.OK && x != (api.Decimal{}) {
				t.Fatalf("%d of %v, %v, %d: %v, %d", i, a, b, scale, x, e)
			}
		}
	}
}
