package moment_test

import (
	"fmt"
	"math"
	"testing"

	"gabarit/api"
	"gabarit/decimal"
	"gabarit/moment"
)

// agree checks all functions of one moment.
func agree(t *testing.T, m api.Moment, met results) {
	t.Helper()
	want, wantedText := api.OK, ""
	if modelValid(m) {
		wantedText = modelText(m)
	} else {
		want = api.ErrArg
	}
	e := moment.Check(m)
	if met.met("Check", e); e != want {
		t.Fatalf("Check of %v: %d", m, e)
	}
	if s, e := moment.Text(m); s != wantedText || e != want {
		t.Fatalf("Text of %v: %s, %d", m, s, e)
	}
	if want == api.OK && m.Kind == api.MtTime {
		want = api.ErrArg
	}
	days := int64(0)
	if want == api.OK {
		days = modelDays(m)
	}
	if n, e := moment.Days(m); n != days || e != want {
		t.Fatalf("Days of %v: %d, %d", m, n, e)
	}
	normal, e := modelNormal(m)
	n, e2 := moment.Normal(m)
	is(t, fmt.Sprint("Normal of ", m), n, e2, normal, e)
	met.met("Normal", e2)
}

// agree2 checks the functions of two moments.
func agree2(t *testing.T, a, b api.Moment, met results) {
	t.Helper()
	order, told, e := moment.Cmp(a, b)
	wantedOrder, wantedTold, want := modelCmp(a, b)
	if order != wantedOrder || told != wantedTold || e != want {
		t.Fatalf("Cmp of %v and %v: %d, %v, %d", a, b, order, told, e)
	}
	equal, e := moment.Equal(a, b)
	if equal != (told && order == 0) || e != want {
		t.Fatalf("Equal of %v and %v: %v, %d", a, b, equal, e)
	}
	met[fmt.Sprint("Cmp ", order, told, a.Zoned != b.Zoned, e)]++
}

// seconds is a decimal to be added, often such that little or nothing is left of the second.
func (d *dice) seconds(m api.Moment) api.Decimal {
	sign := d.of("", "-")
	switch d.below(6) {
	case 0:
		return dec(sign + fmt.Sprint(d.from(0, 1, 60, 3600, 86399, 86400, 86401, d.below(1<<24))))
	case 1:
		return dec(sign + d.of("0.5", "0.25", "86399.75", "59.5", "999999999999.5", "999999999999", "1000000000000", "1000000000000.1", "999999999999."+nines(48), nines(60), "0."+nines(60), "0."+zeros(59)+"1"))
	case 2:
		a := m.Second
		if modelDecimal(a) && a.Digits != "0" {
			a.Neg = true
			return a
		}
	case 3:
		l := wrongDecimals()
		return l[d.below(len(l))]
	}
	a := d.second(100)
	if d.below(3) == 0 {
		a = d.second(1 << 20)
	}
	a.Neg = a.Digits != "0" && sign != ""
	return a
}

// TestMomentsAgree has moments of all kinds; some of them are not valid.
func TestMomentsAgree(t *testing.T) { // P6.1 to P6.4
	d, met := dice(1), results{}
	for range 60000 {
		m := d.moment(1 + d.below(3))
		n := d.near(m)
		if d.below(4) == 0 {
			n = d.spoilt(n)
		}
		agree(t, m, met)
		agree(t, n, met)
		agree2(t, m, n, met)
		agree2(t, n, m, met)
		agree2(t, n, n, met)
		agree2(t, m, d.moment(1+d.below(3)), met)
	}
	met.atLeast(t, 500, "Normal 7")
	met.atLeast(t, 1000, "Check 0", "Check 2", "Normal 0", "Normal 2", "Cmp 0 false true 0", "Cmp -1 true true 0", "Cmp 1 true true 0", "Cmp -1 true false 0", "Cmp 0 true false 0", "Cmp 1 true false 0", "Cmp 0 false false 2")
}

// TestFarApart has moments, one of them with a zone, that are 50400 seconds apart, and a little more or less.
func TestFarApart(t *testing.T) { // P6.4
	d, met := dice(2), results{}
	for range 20000 {
		a := d.moment(api.MtBoth)
		a.Zoned, a.Zone = true, d.from(0, d.below(1681)-840)
		b, e := moment.Add(a, 0, dec(d.of("50400", "-50400", "50400.5", "-50399.5", "50401", "-50401", "-50399", "50400."+zeros(54)+"1", "-50400."+zeros(54)+"1")))
		if e != api.OK {
			continue
		}
		if b.Zoned, b.Zone = false, 0; d.below(2) == 0 {
			b.Second = d.second(60)
		}
		local, e := moment.Add(b, 0, decimal.Of(int64(-60*a.Zone)))
		if e == api.OK {
			agree2(t, a, local, met)
			agree2(t, local, a, met)
		}
	}
	met.atLeast(t, 500, "Cmp 0 false true 0", "Cmp -1 true true 0", "Cmp 1 true true 0")
}

// spoiltText is a text with a byte more, less or another one.
func (d *dice) spoiltText(s string) string {
	at := d.below(len(s) + 1)
	sign := d.of("0", "1", "2", "5", "6", "9", ":", "-", "+", ".", "T", "Z", "x", " ", "\n", "\xff", "60", "-00:00", "+14:01", zeros(60), nines(61))
	end := min(at+1, len(s))
	switch d.below(4) {
	case 0:
		return s[:at] + s[end:]
	case 1:
		return s[:at] + sign + s[at:]
	case 2:
		return s[at:] + s[:at]
	}
	return s[:at] + sign + s[end:]
}

func TestReadAgrees(t *testing.T) { // P6.2
	d, met := dice(3), results{}
	for range 100000 {
		kind := 1 + d.below(3)
		s := modelText(d.moment(kind))
		for range d.below(4) {
			s = d.spoiltText(s)
		}
		if d.below(20) == 0 {
			kind = d.below(5)
		}
		m, e := moment.Read(kind, s)
		want, wanted := modelRead(kind, s)
		is(t, fmt.Sprintf("Read of %q as %d", s, kind), m, e, want, wanted)
		met.met("Read", e)
	}
	met.atLeast(t, 1000, "Read 0", "Read 2", "Read 6")
	met.atLeast(t, 500, "Read 7")
}

// TestShortFields has all fields of two digits in all places.
func TestShortFields(t *testing.T) { // P6.2
	for n := range 100 {
		for _, form := range []string{"%02d:00:00", "12:%02d:00", "12:00:%02d", "12:00:00.%02d", "12:00:00+%02d:00", "12:00:00-%02d:30", "12:00:00+12:%02d", "12:00:00-14:%02d", "2024-%02d-15", "2024-02-%02d", "2023-02-%02d", "2024-03-%02d", "2024-04-%02d", "20%02d-02-29", "%02d00-02-29", "-00%02d-02-29", "-%02d01-02-29"} {
			s := fmt.Sprintf(form, n)
			m, e := moment.Read(guess(s), s)
			want, wanted := modelRead(guess(s), s)
			is(t, "Read of "+s, m, e, want, wanted)
		}
	}
}

func TestAddAgrees(t *testing.T) { // P6.5
	d, met := dice(4), results{}
	for range 40000 {
		m := d.moment(1 + d.below(3))
		months := d.from(0, 0, 1, -1, 2, 11, -11, 12, -12, 13, d.below(400)-200, d.below(4000)-2000)
		if d.below(50) == 0 {
			months = d.from(300000, -300000, 300001, -300001, 239975, -239975, 239976, math.MaxInt, math.MinInt, d.below(600001)-300000)
		}
		if m.Kind == api.MtTime && d.below(5) > 0 {
			months = 0
		}
		if d.below(20) == 0 {
			m = d.spoilt(m)
		}
		seconds := d.seconds(m)
		want, wanted := modelAdd(m, months, seconds)
		n, e := moment.Add(m, months, seconds)
		is(t, fmt.Sprint("Add of ", months, " months and ", seconds, " to ", m), n, e, want, wanted)
		met.met(fmt.Sprint("Add ", m.Kind), e)
	}
	met.atLeast(t, 500, "Add 1 0", "Add 1 2", "Add 1 7", "Add 2 0", "Add 2 2", "Add 2 7", "Add 3 0", "Add 3 2", "Add 3 7")
}

func TestReadOfText(t *testing.T) { // P6.6
	d := dice(5)
	for range 30000 {
		m := d.moment(1 + d.below(3))
		s, e := moment.Text(m)
		if e != api.OK {
			t.Fatalf("Text of %v: %d", m, e)
		}
		back, e := moment.Read(m.Kind, s)
		is(t, "Read of "+s, back, e, m, api.OK)
	}
}

// TestOrder has three moments that are near to each other.
func TestOrder(t *testing.T) { // P6.6
	d, met := dice(6), results{}
	for range 15000 {
		a := d.moment(1 + d.below(3))
		b := d.near(a)
		c := d.near(d.near(b))
		l := []api.Moment{a, b, c}
		for _, m := range l {
			order, told, e := moment.Cmp(m, m)
			equal, e2 := moment.Equal(m, m)
			if order != 0 || !told || !equal || e != api.OK || e2 != api.OK {
				t.Fatalf("Cmp of %v with itself: %d, %v, %d; %v, %d", m, order, told, e, equal, e2)
			}
		}
		for i := range 6 {
			a, b, c := l[i%3], l[(i+1+i/3)%3], l[(i+2+2*(i/3))%3]
			ab, _, _ := moment.Cmp(a, b)
			ba, _, _ := moment.Cmp(b, a)
			bc, _, _ := moment.Cmp(b, c)
			ac, told, _ := moment.Cmp(a, c)
			equal, _ := moment.Equal(a, c)
			if ab != -ba || ab < 0 && bc < 0 && (equal || told && ac >= 0) {
				t.Fatalf("Cmp of %v, %v and %v: %d, %d, %d, %d, %v", a, b, c, ab, ba, bc, ac, equal)
			}
			if ab < 0 && bc < 0 {
				met[fmt.Sprint("less ", a.Zoned, b.Zoned, c.Zoned)]++
			}
		}
	}
	met.atLeast(t, 50, "less true true true", "less true true false", "less true false true", "less false true true", "less true false false", "less false true false", "less false false true", "less false false false")
}

// TestAllDays goes through the calendar day by day.
func TestAllDays(t *testing.T) { // P6.3, P6.7
	day := dec("86400")
	n := int64(-3652060)
	for m := date(-9999, 1, 1); m.Year < 10000; n++ {
		if number, e := moment.Days(m); number != n || e != api.OK {
			t.Fatalf("Days of %v: %d, %d, not %d", m, number, e, n)
		}
		next := m
		if next.Day++; next.Day > 28 && next.Day > modelLast(m.Year, m.Month) {
			next.Day = 1
			next.Month++
		}
		if next.Month > 12 {
			next.Month = 1
			next.Year = writtenYear(countedYear(m.Year) + 1)
		}
		if next.Day == 1 && next.Month%2 == 1 || n%100 == 0 {
			sum, e := moment.Add(m, 0, day)
			if next.Year == 10000 {
				is(t, fmt.Sprint("Add to ", m), sum, e, api.Moment{}, api.ErrRange)
			} else {
				is(t, fmt.Sprint("Add to ", m), sum, e, next, api.OK)
			}
		}
		m = next
	}
	if n != 3652059 {
		t.Errorf("%d days", n)
	}
}

func TestDayAfter(t *testing.T) { // P6.7
	d, met := dice(7), results{}
	for range 30000 {
		m := d.moment(d.from(api.MtDate, api.MtBoth))
		next, e := moment.Add(m, 0, dec("86400"))
		if met.met("Add", e); e != api.OK {
			continue
		}
		a, _ := moment.Days(m)
		b, _ := moment.Days(next)
		back, e := moment.Add(next, 0, dec("-86400"))
		if is(t, fmt.Sprint("the day before ", next), back, e, m, api.OK); b != a+1 {
			t.Fatalf("Days of %v, %v: %d, %d", m, next, a, b)
		}
	}
	met.atLeast(t, 500, "Add 0", "Add 7")
}

func TestNormalIsEqual(t *testing.T) { // P6.7
	d, met := dice(8), results{}
	for range 30000 {
		m := d.moment(api.MtBoth)
		n, e := moment.Normal(m)
		if met.met("Normal", e); e != api.OK {
			continue
		}
		equal, e := moment.Equal(m, n)
		if !equal || e != api.OK || n.Zone != 0 || !n.Zoned || modelPoint(m).Cmp(modelPoint(n)) != 0 {
			t.Fatalf("Normal of %v: %v", m, n)
		}
		again, e := moment.Normal(n)
		is(t, fmt.Sprint("Normal of ", n), again, e, n, api.OK)
	}
	met.atLeast(t, 500, "Normal 0", "Normal 2", "Normal 7")
}

// TestResultsAreValid looks at all results, whatever the arguments are.
func TestResultsAreValid(t *testing.T) { // R1, R2, R6
	d := dice(9)
	for range 30000 {
		m := d.spoilt(d.moment(1 + d.below(3)))
		if d.below(2) == 0 {
			m = d.spoilt(m)
		}
		months, seconds := d.from(0, 1, -1, 12, 300000, -300000, math.MaxInt, math.MinInt), d.seconds(m)
		s := d.spoiltText(modelText(d.moment(1 + d.below(3))))
		for i, f := range []func() (api.Moment, api.Errno){
			func() (api.Moment, api.Errno) { return moment.Normal(m) },
			func() (api.Moment, api.Errno) { return moment.Add(m, months, seconds) },
			func() (api.Moment, api.Errno) { return moment.Read(m.Kind, s) },
		} {
			x, e := f()
			if again, e2 := f(); again != x || e2 != e {
				t.Fatalf("%d of %v, %d, %v, %q: %v, %d, and then %v, %d", i, m, months, seconds, s, x, e, again, e2)
			}
			if e == api.OK && !modelValid(x) || e != api.OK && x != (api.Moment{}) {
				t.Fatalf("%d of %v, %d, %v, %q: %v, %d", i, m, months, seconds, s, x, e)
			}
		}
	}
}
