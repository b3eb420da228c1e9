package moment_test

import (
	"fmt"
	"math"
	"strings"
	"testing"

	"gabarit/api"
	"gabarit/moment"
)

func date(year, month, day int) api.Moment {
	return api.Moment{Kind: api.MtDate, Year: year, Month: month, Day: day}
}

func clock(hour, minute int, second string) api.Moment {
	return api.Moment{Kind: api.MtTime, Hour: hour, Minute: minute, Second: dec(second)}
}

func both(d, c api.Moment) api.Moment {
	d.Kind, d.Hour, d.Minute, d.Second = api.MtBoth, c.Hour, c.Minute, c.Second
	return d
}

func zoned(m api.Moment, zone int) api.Moment {
	m.Zoned, m.Zone = true, zone
	return m
}

// right are valid moments with their texts.
func right() map[string]api.Moment {
	return map[string]api.Moment{
		"0001-01-01": date(1, 1, 1), "-0001-12-31": date(-1, 12, 31), "9999-12-31": date(9999, 12, 31), "-9999-01-01": date(-9999, 1, 1), "2024-02-29": date(2024, 2, 29), "2000-02-29": date(2000, 2, 29), "-0001-02-29": date(-1, 2, 29), "-0005-02-29": date(-5, 2, 29), "-0401-02-29": date(-401, 2, 29), "0400-02-29": date(400, 2, 29), "0004-02-29": date(4, 2, 29), "1900-02-28": date(1900, 2, 28), "0010-10-10": date(10, 10, 10), "0100-09-09": date(100, 9, 9), "-0123-04-30": date(-123, 4, 30),
		"2024-03-01Z": zoned(date(2024, 3, 1), 0), "-0001-02-29Z": zoned(date(-1, 2, 29), 0), "9999-12-31+14:00": zoned(date(9999, 12, 31), 840), "-9999-01-01-14:00": zoned(date(-9999, 1, 1), -840), "2024-03-01+00:01": zoned(date(2024, 3, 1), 1), "2024-03-01-00:01": zoned(date(2024, 3, 1), -1),
		"00:00:00": clock(0, 0, "0"), "23:59:59": clock(23, 59, "59"), "12:34:56": clock(12, 34, "56"), "01:02:03.04": clock(1, 2, "3.04"), "00:00:00.5": clock(0, 0, "0.5"), "00:00:09.25": clock(0, 0, "9.25"), "00:00:10.25": clock(0, 0, "10.25"), "20:30:40": clock(20, 30, "40"), "00:00:00.001": clock(0, 0, "0.001"), "00:00:10": clock(0, 0, "10"),
		"23:59:59." + nines(58): clock(23, 59, "59."+nines(58)), "00:00:00." + nines(60): clock(0, 0, "0."+nines(60)), "00:00:00." + zeros(59) + "1": clock(0, 0, "0."+zeros(59)+"1"), "00:00:09." + nines(59): clock(0, 0, "9."+nines(59)),
		"12:00:00Z": zoned(clock(12, 0, "0"), 0), "12:00:00+00:30": zoned(clock(12, 0, "0"), 30), "12:00:00-00:30": zoned(clock(12, 0, "0"), -30), "12:00:00+01:00": zoned(clock(12, 0, "0"), 60), "12:00:00-01:01": zoned(clock(12, 0, "0"), -61), "12:00:00+13:59": zoned(clock(12, 0, "0"), 839), "12:00:00.5-14:00": zoned(clock(12, 0, "0.5"), -840), "12:00:00+10:09": zoned(clock(12, 0, "0"), 609),
		"2024-03-01T12:00:05.5+01:00": zoned(both(date(2024, 3, 1), clock(12, 0, "5.5")), 60), "-0044-03-15T00:00:00": both(date(-44, 3, 15), clock(0, 0, "0")), "9999-12-31T23:59:59.999Z": zoned(both(date(9999, 12, 31), clock(23, 59, "59.999")), 0), "-9999-01-01T00:00:00-14:00": zoned(both(date(-9999, 1, 1), clock(0, 0, "0")), -840),
	}
}

// wrong are moments that are not valid.
func wrong() []api.Moment {
	l := []api.Moment{
		{}, {Kind: api.MtDate}, {Kind: api.MtTime}, {Kind: api.MtBoth}, {Second: dec("0")},
		date(0, 1, 1), date(10000, 1, 1), date(-10000, 1, 1), date(math.MaxInt, 1, 1), date(math.MinInt, 1, 1), date(2024, 0, 1), date(2024, 13, 1), date(2024, -1, 1), date(2024, math.MaxInt, 1), date(2024, math.MinInt, 1), date(2024, 1, 0), date(2024, 1, -1), date(2024, 1, 32), date(2024, 1, math.MaxInt), date(2024, 1, math.MinInt),
		date(2024, 2, 30), date(2023, 2, 29), date(1900, 2, 29), date(2100, 2, 29), date(100, 2, 29), date(2000, 2, 30), date(1, 2, 29), date(-1, 2, 30), date(-4, 2, 29), date(-2, 2, 29), date(-101, 2, 29), date(-100, 2, 29), date(-400, 2, 29), date(-9999, 2, 29), date(2024, 4, 31), date(2024, 6, 31), date(2024, 9, 31), date(2024, 11, 31), date(2024, 12, 32),
		{Kind: api.MtDate, Year: 1, Month: 1, Day: 1, Hour: 1}, {Kind: api.MtDate, Year: 1, Month: 1, Day: 1, Minute: 1}, {Kind: api.MtDate, Year: 1, Month: 1, Day: 1, Second: dec("0")}, {Kind: api.MtDate, Year: 1, Month: 1, Day: 1, Second: dec("1")}, {Kind: api.MtDate, Year: 1, Month: 1, Day: 1, Second: api.Decimal{Neg: true}}, {Kind: api.MtDate, Year: 1, Month: 1, Day: 1, Second: api.Decimal{Scale: 1}},
		{Kind: api.MtTime, Year: 1, Second: dec("0")}, {Kind: api.MtTime, Month: 1, Second: dec("0")}, {Kind: api.MtTime, Day: 1, Second: dec("0")}, {Kind: api.MtTime, Year: 1, Month: 1, Day: 1, Second: dec("0")},
		clock(24, 0, "0"), clock(-1, 0, "0"), clock(math.MaxInt, 0, "0"), clock(math.MinInt, 0, "0"), clock(0, 60, "0"), clock(0, -1, "0"), clock(0, math.MaxInt, "0"), clock(0, math.MinInt, "0"), clock(0, 0, "60"), clock(0, 0, "60.5"), clock(0, 0, "-1"), clock(0, 0, "-0.5"), clock(0, 0, "-0."+zeros(59)+"1"), clock(0, 0, "60."+zeros(57)+"1"), clock(0, 0, nines(60)), clock(0, 0, "-"+nines(60)), clock(0, 0, "100"),
	}
	for _, a := range wrongDecimals() {
		l = append(l, api.Moment{Kind: api.MtTime, Second: a}, api.Moment{Kind: api.MtBoth, Year: 1, Month: 1, Day: 1, Second: a})
	}
	for _, m := range []api.Moment{date(2024, 3, 1), clock(12, 0, "0"), both(date(2024, 3, 1), clock(12, 0, "0"))} {
		for _, zone := range []int{841, -841, math.MaxInt, math.MinInt} {
			l = append(l, zoned(m, zone))
		}
		for _, zone := range []int{1, -1, 840, -840, 841, math.MinInt} {
			none := m
			none.Zone = zone
			l = append(l, none)
		}
		for _, kind := range []int{0, -1, 4, math.MaxInt, math.MinInt} {
			none := m
			none.Kind = kind
			l = append(l, none)
		}
		for kind := range 4 {
			if kind != m.Kind {
				other := m
				other.Kind = kind
				l = append(l, other)
			}
		}
	}
	for _, m := range l {
		if m.Kind == api.MtTime || m.Kind == api.MtDate {
			l = append(l, zoned(m, m.Zone))
		}
		if m.Kind == api.MtDate && m.Second == (api.Decimal{}) && m.Hour == 0 && m.Minute == 0 && !m.Zoned {
			l = append(l, both(m, clock(12, 0, "0")))
		}
		if m.Kind == api.MtTime && m.Year == 0 && m.Month == 0 && m.Day == 0 && !m.Zoned {
			l = append(l, both(date(2024, 3, 1), m))
		}
	}
	wrong := []api.Moment{}
	for _, m := range l {
		if !modelValid(m) { // a zone may have come to one that lacked it
			wrong = append(wrong, m)
		}
	}
	return wrong
}

func TestCheck(t *testing.T) { // P6.1
	for _, m := range right() {
		if e := moment.Check(m); e != api.OK {
			t.Errorf("Check of %v: %d", m, e)
		}
	}
	for _, m := range wrong() {
		if e := moment.Check(m); e != api.ErrArg {
			t.Errorf("Check of %v: %d", m, e)
		}
	}
}

// TestMonths has the ends of all months of all years.
func TestMonths(t *testing.T) { // P6.1
	for year := -10000; year <= 10000; year++ {
		for month := 0; month <= 13; month++ {
			for day := range 33 {
				if 1 < day && day < 28 {
					continue
				}
				m := date(year, month, day)
				if e := moment.Check(m); (e == api.OK) != modelValid(m) || e != api.OK && e != api.ErrArg {
					t.Fatalf("Check of %v: %d", m, e)
				}
			}
		}
	}
}

func TestText(t *testing.T) { // P6.2
	for s, m := range right() {
		if text, e := moment.Text(m); text != s || e != api.OK {
			t.Errorf("Text of %v: %s, %d", m, text, e)
		}
	}
}

func TestRead(t *testing.T) { // P6.2
	for s, want := range right() {
		for kind := range 5 {
			wanted := api.ErrForm
			if kind == want.Kind {
				wanted = api.OK
			} else if kind == 0 || kind == 4 {
				wanted = api.ErrArg
			}
			m, e := moment.Read(kind, s)
			if wanted != api.OK {
				is(t, "Read of "+s, m, e, api.Moment{}, wanted)
			} else {
				is(t, "Read of "+s, m, e, want, api.OK)
			}
		}
	}
	for s, want := range map[string]api.Moment{
		"12:00:05.50": clock(12, 0, "5.5"), "12:00:00.0": clock(12, 0, "0"), "12:00:59." + zeros(1000): clock(12, 0, "59"), "12:00:09." + nines(59) + zeros(100): clock(12, 0, "9."+nines(59)), "00:00:00." + nines(60) + "0": clock(0, 0, "0."+nines(60)), "00:00:00.10": clock(0, 0, "0.1"), "12:00:50.0500Z": zoned(clock(12, 0, "50.05"), 0),
		"12:00:00+00:00": zoned(clock(12, 0, "0"), 0), "12:00:00-00:00": zoned(clock(12, 0, "0"), 0), "2024-03-01+00:00": zoned(date(2024, 3, 1), 0), "2024-03-01-00:00": zoned(date(2024, 3, 1), 0), "2024-03-01T12:00:05.50+01:00": zoned(both(date(2024, 3, 1), clock(12, 0, "5.5")), 60), "-0044-03-15T12:00:05.000-00:00": zoned(both(date(-44, 3, 15), clock(12, 0, "5")), 0),
	} {
		m, e := moment.Read(want.Kind, s)
		is(t, "Read of "+s, m, e, want, api.OK)
	}
	for _, kind := range []int{0, -1, 4, 5, math.MaxInt, math.MinInt} {
		for _, s := range []string{"2000-01-01", "12:00:00", "2000-01-01T12:00:00", "", "x", "12:00:00." + nines(61)} {
			m, e := moment.Read(kind, s)
			is(t, fmt.Sprint("Read of the kind ", kind), m, e, api.Moment{}, api.ErrArg)
		}
	}
}

// isForm checks that a text is not read as any kind.
func isForm(t *testing.T, s string) {
	t.Helper()
	for kind := 1; kind <= 3; kind++ {
		m, e := moment.Read(kind, s)
		is(t, fmt.Sprintf("Read of %q as %d", s, kind), m, e, api.Moment{}, api.ErrForm)
	}
}

func TestReadForm(t *testing.T) { // P6.2
	dates := []string{"0000-01-01", "-0000-01-01", "1900-02-29", "2023-02-29", "-0004-02-29", "2024-02-30", "2024-00-01", "2024-13-01", "2024-99-01", "2024-01-00", "2024-01-32", "2024-01-99", "2024-04-31",
		"024-01-01", "12024-01-01", "-024-01-01", "-12024-01-01", "2024-1-01", "2024-001-01", "2024-01-1", "2024-01-001", "+2024-01-01", "--2024-01-01", " 2024-01-01", "-", "2024", "2024-", "2024-01", "2024-01-", "20240101", "2024-0101", "202401-01", "2024/01/01", "2024-01:01", "2024.01.01", "2024--01-01", "2024-01--01", "2024-01-+1", "2024-+1-01", "2024- 1-01", "-2024--1-01", "2O24-01-01", "2024-0x-01", "2024-01-0\u0661", "\u0662024-01-01", "\uff12024-01-01", "2024\u201301-01", "x2024-01-01", "2024\x00-01-01", "\xff2024-01-01"}
	times := []string{"24:00:00", "24:00:00.5", "99:00:00", "12:60:00", "12:99:00", "12:00:60", "12:00:60.5", "12:00:99", "12:00:61." + nines(58),
		"1:00:00", "012:00:00", "12:0:00", "12:000:00", "12:00:0", "12:00:000", "12:00:0.5", "12:00:000.5", "12", "12:", "12:00", "12:00:", "12:00:.5", ":00:00", "12::00", "120000", "12:0000", "12.00.00", "12-00-00", "12:00:00.", "12:00:00..5", "12:00:00.5.5", "12:00:00.-5", "12:00:00.+5", "12:00:00.5e3", "12:00:00,5", "12:00:00. 5", "+12:00:00", "-12:00:00", "12:-1:00", "12:00:-1", "12:00:+1", " 12:00:00", "x12:00:00", "12:00:0x", "1x:00:00", "12:00:0\u0661", "12\uff1a00:00", "12:00:00.\u0665", "12:00:00.5x", "T12:00:00", "\x0012:00:00"}
	zones := []string{"z", "ZZ", "Z+00:00", "+", "-", "+1", "+01", "+01:", "+01:0", "+1:00", "+001:00", "+01:000", "+0100", "01:00", "+01:60", "+01:99", "-00:60", "+13:60", "+14:01", "-14:01", "+14:59", "+15:00", "+24:00", "+99:59", "-99:00", "++01:00", "+-01:00", "+01:00Z", "+01:00+01:00", "+01:-1", "+ 1:00", "+01.00", "\u221201:00", "+0\u0661:00", "UTC", "GMT", " Z", "Z ", "\n", " ", "\t", "\r\n", "\x00", "x", "\xff", ":00", "-01", "T", "T12:00", "/", "[Z]", "+01:00 ", "+01:00x"}
	for _, s := range append(dates, times...) {
		isForm(t, s)
		isForm(t, s+"Z")
		isForm(t, s+"+01:00")
	}
	for _, s := range dates {
		isForm(t, s+"T12:00:00")
		isForm(t, s+"T12:00:00.5-01:00")
	}
	for _, s := range times {
		isForm(t, "2024-03-01T"+s)
		isForm(t, "-2024-03-01T"+s+"Z")
	}
	for _, s := range zones {
		isForm(t, "2024-03-01"+s)
		isForm(t, "12:00:00"+s)
		isForm(t, "2024-03-01T12:00:00"+s)
	}
	for _, s := range []string{"", "Z", "T", "+01:00", "2024-03-01T", "T12:00:00", "2024-03-01t12:00:00", "2024-03-01 12:00:00", "2024-03-0112:00:00", "2024-03-01ZT12:00:00", "2024-03-01TT12:00:00", "2024-03-01T12:00:00T", "12:00:00T2024-03-01", "2024-03-01T-12:00:00", "2024-03-01T2024-03-01", "12:00:00T12:00:00"} {
		isForm(t, s)
	}
}

// TestReadOrder has seconds with more digits than a decimal may have, in texts without the form, and of moments that are not valid.
func TestReadOrder(t *testing.T) { // P6.2
	for _, second := range []string{"09." + nines(60), "59." + nines(59), "10." + zeros(58) + "1", "00." + nines(61), "00." + zeros(60) + "1", "00." + zeros(1000) + "1", "60." + nines(59), "99." + nines(61), "59." + nines(100000)} {
		for _, s := range []string{"12:00:", "24:00:", "12:60:", "99:99:", "2024-03-01T12:00:", "0000-00-00T12:00:", "2023-02-29T12:00:", "-2024-13-32T24:60:"} {
			for _, zone := range []string{"", "Z", "+00:00", "-14:00", "+14:01", "-99:59"} {
				m, e := moment.Read(guess(s), s+second+zone)
				is(t, "Read of "+s+second+zone, m, e, api.Moment{}, api.ErrRange)
			}
			for _, zone := range []string{"x", "z", "ZZ", ".", " ", "+", "+1:00", "+01:60", "+01:000"} {
				isForm(t, s+second+zone)
			}
		}
		isForm(t, "12:0:"+second)
		isForm(t, "x12:00:"+second)
		isForm(t, "2024-3-01T12:00:"+second)
	}
	for _, second := range []string{"60", "99", "60.5", "99." + nines(58), "60." + zeros(100)} {
		isForm(t, "12:00:"+second)
		isForm(t, "2024-03-01T12:00:"+second+"Z")
	}
}

func TestDays(t *testing.T) { // P6.3
	for s, want := range map[string]int64{
		"0001-01-01": 0, "0001-01-02": 1, "0001-12-31": 364, "0002-01-01": 365, "0004-02-29": 1154, "0005-01-01": 1461, "-0001-12-31": -1, "-0001-03-01": -306, "-0001-02-29": -307, "-0001-01-01": -366, "-0002-12-31": -367, "-0004-01-01": -1461, "-0005-12-31": -1462, "1900-03-01": 693654, "1970-01-01": 719162, "2000-01-01": 730119, "2000-02-29": 730178, "2000-03-01": 730179, "2000-12-31": 730484, "2001-01-01": 730485, "9999-12-31": 3652058, "-9999-01-01": -3652060, "-9999-01-02": -3652059,
	} {
		m := mom(s)
		for _, m := range []api.Moment{m, zoned(m, 0), zoned(m, 840), zoned(m, -840), both(m, clock(0, 0, "0")), both(m, clock(23, 59, "59."+nines(58))), zoned(both(m, clock(0, 0, "0")), 840), zoned(both(m, clock(23, 59, "59.5")), -840)} {
			if n, e := moment.Days(m); n != want || e != api.OK {
				t.Errorf("Days of %v: %d, %d", m, n, e)
			}
		}
	}
	for _, m := range []api.Moment{clock(0, 0, "0"), clock(23, 59, "59"), zoned(clock(12, 0, "0"), 60)} {
		if n, e := moment.Days(m); n != 0 || e != api.ErrArg {
			t.Errorf("Days of %v: %d, %d", m, n, e)
		}
	}
}

func TestNormal(t *testing.T) { // P6.3
	for s, want := range map[string]string{
		"2024-03-01T12:00:05.5+01:00": "2024-03-01T11:00:05.5Z", "2024-03-01T00:30:00+01:00": "2024-02-29T23:30:00Z", "2023-03-01T00:30:00+01:00": "2023-02-28T23:30:00Z", "2024-02-29T23:30:00-01:00": "2024-03-01T00:30:00Z", "2024-01-01T00:00:00+00:01": "2023-12-31T23:59:00Z", "2023-12-31T23:59:00-00:01": "2024-01-01T00:00:00Z", "2024-03-01T12:00:00Z": "2024-03-01T12:00:00Z", "2024-03-01T13:59:59+14:00": "2024-02-29T23:59:59Z", "2024-03-01T14:00:00+14:00": "2024-03-01T00:00:00Z", "2024-03-01T09:59:59.9-14:00": "2024-03-01T23:59:59.9Z", "2024-03-01T10:00:00-14:00": "2024-03-02T00:00:00Z",
		"0001-01-01T00:00:00+00:01": "-0001-12-31T23:59:00Z", "-0001-12-31T23:59:00-00:01": "0001-01-01T00:00:00Z", "-0001-03-01T00:00:00+00:01": "-0001-02-29T23:59:00Z", "9999-12-31T23:59:59+14:00": "9999-12-31T09:59:59Z", "9999-12-31T09:59:59." + nines(58) + "-14:00": "9999-12-31T23:59:59." + nines(58) + "Z", "-9999-01-01T14:00:00+14:00": "-9999-01-01T00:00:00Z", "-9999-01-01T00:00:00-14:00": "-9999-01-01T14:00:00Z",
		"00:30:00+01:00": "23:30:00Z", "23:30:00.25-01:00": "00:30:00.25Z", "12:00:00Z": "12:00:00Z", "00:00:00+00:01": "23:59:00Z", "23:59:00-00:01": "00:00:00Z", "00:00:00+14:00": "10:00:00Z", "23:59:59-14:00": "13:59:59Z", "14:00:00+14:00": "00:00:00Z", "10:00:00-14:00": "00:00:00Z", "00:00:59." + nines(58) + "+00:01": "23:59:59." + nines(58) + "Z",
	} {
		m, e := moment.Normal(mom(s))
		is(t, "Normal of "+s, m, e, mom(want), api.OK)
	}
	for s, want := range map[string]api.Errno{
		"9999-12-31T23:59:00-00:01": api.ErrRange, "9999-12-31T10:00:00-14:00": api.ErrRange, "-9999-01-01T00:00:00+00:01": api.ErrRange, "-9999-01-01T13:59:59." + nines(58) + "+14:00": api.ErrRange,
		"2024-03-01T12:00:00": api.ErrArg, "9999-12-31T23:59:59": api.ErrArg, "12:00:00": api.ErrArg, "2024-03-01": api.ErrArg, "2024-03-01Z": api.ErrArg, "9999-12-31-14:00": api.ErrArg, "-9999-01-01+14:00": api.ErrArg,
	} {
		m, e := moment.Normal(mom(s))
		is(t, "Normal of "+s, m, e, api.Moment{}, want)
	}
}

// compared is how two moments stand to each other.
type compared struct {
	a, b  string
	order int
	told  bool
}

func TestCmp(t *testing.T) { // P6.4
	for _, c := range []compared{
		{"12:00:00Z", "13:00:00+02:00", 1, true}, {"12:00:00Z", "13:00:00+01:00", 0, true}, {"12:00:00", "12:00:00", 0, true}, {"12:00:00", "12:00:00.5", -1, true}, {"12:00:01", "12:00:00.5", 1, true}, {"12:00:00.001", "12:00:00.0005", 1, true}, {"12:00:09", "12:00:10", -1, true}, {"00:00:00", "23:59:59", -1, true}, {"00:30:00+01:00", "23:30:00Z", -1, true}, {"00:00:00+14:00", "00:00:00-14:00", -1, true}, {"00:00:00+14:00", "10:00:00Z", -1, true}, {"00:00:00.5+00:01", "00:00:00Z", -1, true}, {"00:00:59.5+00:01", "00:00:00Z", -1, true}, {"00:01:00.5+00:01", "00:00:00Z", 1, true},
		{"12:00:00." + nines(60), "12:00:01", -1, true}, {"12:00:00." + nines(60), "12:00:00." + nines(59) + "8", 1, true}, {"23:59:59." + nines(58) + "Z", "23:59:59." + nines(58) + "+00:00", 0, true}, {"12:00:00." + nines(60) + "Z", "13:00:00." + nines(60) + "+01:00", 0, true}, {"12:00:00.5" + zeros(58) + "1Z", "13:00:00.5+01:00", 1, true},
		{"2000-01-01", "2000-01-02", -1, true}, {"-0001-12-31", "0001-01-01", -1, true}, {"-0002-01-01", "-0001-01-01", -1, true}, {"2000-01-01", "2000-01-01", 0, true}, {"2000-02-29", "2000-03-01", -1, true}, {"-9999-01-01", "9999-12-31", -1, true}, {"2000-01-01Z", "2000-01-01Z", 0, true}, {"2000-01-01+01:00", "2000-01-01Z", -1, true}, {"2000-01-01-12:00", "2000-01-02+12:00", 0, true}, {"2000-01-01-12:01", "2000-01-02+12:00", 1, true}, {"2000-01-02+14:00", "2000-01-01-14:00", -1, true},
		{"2000-01-01T00:00:00", "2000-01-01T00:00:00.1", -1, true}, {"2000-01-01T23:59:59.9", "2000-01-02T00:00:00", -1, true}, {"2000-01-01T23:00:00-01:00", "2000-01-02T01:00:00+01:00", 0, true}, {"2000-01-01T23:00:00.1-01:00", "2000-01-02T01:00:00+01:00", 1, true}, {"-0001-12-31T23:59:59Z", "0001-01-01T00:00:00Z", -1, true}, {"-0001-12-31T23:59:00-00:01", "0001-01-01T00:00:00Z", 0, true}, {"9999-12-31T23:59:59-14:00", "9999-12-31T23:59:59Z", 1, true}, {"-9999-01-01T00:00:00+14:00", "-9999-01-01T00:00:00Z", -1, true}, {"0001-01-01T00:00:00.5Z", "0001-01-01T00:00:00.25Z", 1, true}, {"-0001-12-31T00:00:00.5Z", "-0001-12-31T00:00:00.25Z", 1, true},
		// one of them has a zone
		{"12:00:00Z", "12:00:00", 0, false}, {"12:00:00+01:00", "12:00:00", 0, false}, {"12:00:00+01:00", "11:00:00", 0, false}, {"00:00:00Z", "14:00:00", 0, false}, {"00:00:00Z", "14:00:00.5", -1, true}, {"00:00:00Z", "14:00:00." + zeros(57) + "1", -1, true}, {"00:00:00.5Z", "14:00:00.5", 0, false}, {"00:00:00.5" + zeros(58) + "1Z", "14:00:00.5", 0, false}, {"00:00:00.5Z", "14:00:00.5" + zeros(56) + "1", -1, true}, {"14:00:00Z", "00:00:00", 0, false}, {"14:00:00.5Z", "00:00:00", 1, true}, {"14:00:00." + zeros(57) + "1Z", "00:00:00", 1, true}, {"14:00:00.5Z", "00:00:00.5", 0, false}, {"00:00:00+14:00", "00:00:00", 0, false}, {"00:00:00+14:00", "00:00:00.1", -1, true}, {"00:00:00-14:00", "00:00:00", 0, false}, {"00:00:00.1-14:00", "00:00:00", 1, true}, {"23:59:59-14:00", "00:00:00", 1, true}, {"23:59:59Z", "00:00:00", 1, true},
		{"2000-01-01Z", "2000-01-02", -1, true}, {"2000-01-01Z", "2000-01-01", 0, false}, {"2000-01-01+14:00", "2000-01-02", -1, true}, {"2000-01-01+14:00", "2000-01-01", 0, false}, {"2000-01-01-14:00", "2000-01-01", 0, false}, {"2000-01-02Z", "2000-01-01", 1, true}, {"2000-01-01-10:00", "2000-01-02", 0, false}, {"2000-01-01-09:59", "2000-01-02", -1, true}, {"2000-01-02+10:00", "2000-01-01", 0, false}, {"2000-01-02+09:59", "2000-01-01", 1, true}, {"2000-01-02-10:00", "2000-01-01", 1, true}, {"-0001-12-31-09:59", "0001-01-01", -1, true}, {"-0001-12-31-10:00", "0001-01-01", 0, false},
		{"2000-01-01T00:00:00Z", "2000-01-01T14:00:00", 0, false}, {"2000-01-01T00:00:00Z", "2000-01-01T14:00:00.1", -1, true}, {"2000-01-01T14:00:00Z", "2000-01-01T00:00:00", 0, false}, {"2000-01-01T14:00:00.1Z", "2000-01-01T00:00:00", 1, true}, {"2000-01-01T00:00:00Z", "2000-01-01T00:00:00", 0, false}, {"1999-12-31T10:00:00Z", "2000-01-01T00:00:00", 0, false}, {"1999-12-31T09:59:59.9Z", "2000-01-01T00:00:00", -1, true}, {"9999-12-31T23:59:59-14:00", "9999-12-31T23:59:59", 0, false}, {"9999-12-31T23:59:59.5-14:00", "9999-12-31T23:59:59", 1, true}, {"-9999-01-01T00:00:00+14:00", "-9999-01-01T00:00:00.1", -1, true},
	} {
		for i, c := range []compared{c, {c.b, c.a, -c.order, c.told}, {c.a, c.a, 0, true}, {c.b, c.b, 0, true}} {
			order, told, e := moment.Cmp(mom(c.a), mom(c.b))
			if order != c.order || told != c.told || e != api.OK {
				t.Errorf("Cmp of %s and %s (%d): %d, %v, %d", c.a, c.b, i, order, told, e)
			}
			equal, e := moment.Equal(mom(c.a), mom(c.b))
			if equal != (c.told && c.order == 0) || e != api.OK {
				t.Errorf("Equal of %s and %s (%d): %v, %d", c.a, c.b, i, equal, e)
			}
		}
	}
}

func TestKindsDiffer(t *testing.T) { // P6.4
	l := []api.Moment{mom("2000-01-01"), mom("2000-01-01Z"), mom("00:00:00"), mom("00:00:00Z"), mom("2000-01-01T00:00:00"), mom("2000-01-01T00:00:00Z"), mom("9999-12-31T23:59:59")}
	for _, a := range l {
		for _, b := range l {
			want := api.OK
			if a.Kind != b.Kind {
				want = api.ErrArg
			}
			order, told, e := moment.Cmp(a, b)
			equal, e2 := moment.Equal(a, b)
			if e != want || e2 != want || e != api.OK && (order != 0 || told || equal) {
				t.Errorf("Cmp of %v and %v: %d, %v, %d; %v, %d", a, b, order, told, e, equal, e2)
			}
		}
	}
}

// added is what a moment comes to.
type added struct {
	m       string
	months  int
	seconds string
	want    string
}

func TestAddMonths(t *testing.T) { // P6.5
	for _, c := range []added{
		{"2024-01-31", 1, "0", "2024-02-29"}, {"2023-01-31", 1, "0", "2023-02-28"}, {"2023-12-31", 2, "0", "2024-02-29"}, {"2024-01-31", 3, "0", "2024-04-30"}, {"2024-01-31", 2, "0", "2024-03-31"}, {"2024-01-30", 1, "0", "2024-02-29"}, {"2024-01-29", 1, "0", "2024-02-29"}, {"2024-01-28", 1, "0", "2024-02-28"}, {"2024-02-29", 12, "0", "2025-02-28"}, {"2024-02-29", 48, "0", "2028-02-29"}, {"2024-02-29", -12, "0", "2023-02-28"}, {"2024-03-31", -1, "0", "2024-02-29"}, {"2024-03-31", -4, "0", "2023-11-30"}, {"1896-02-29", 48, "0", "1900-02-28"}, {"1996-02-29", 48, "0", "2000-02-29"}, {"2024-02-29", 0, "0", "2024-02-29"},
		{"2024-12-01", 1, "0", "2025-01-01"}, {"2024-01-01", -1, "0", "2023-12-01"}, {"2024-06-15", 6, "0", "2024-12-15"}, {"2024-06-15", 7, "0", "2025-01-15"}, {"2024-06-15", -5, "0", "2024-01-15"}, {"2024-06-15", -6, "0", "2023-12-15"}, {"2024-06-15", 1200, "0", "2124-06-15"}, {"2024-01-15", -13, "0", "2022-12-15"}, {"2024-12-15", 12, "0", "2025-12-15"}, {"2024-12-15", -12, "0", "2023-12-15"},
		{"0001-01-15", -1, "0", "-0001-12-15"}, {"-0001-12-15", 1, "0", "0001-01-15"}, {"0001-01-15", -12, "0", "-0001-01-15"}, {"0001-01-15", -13, "0", "-0002-12-15"}, {"-0002-12-15", 13, "0", "0001-01-15"}, {"-0001-01-15", -1, "0", "-0002-12-15"}, {"0001-03-31", -13, "0", "-0001-02-29"}, {"0004-02-29", -48, "0", "-0001-02-29"}, {"-0001-02-29", 12, "0", "0001-02-28"}, {"-0005-02-29", 48, "0", "-0001-02-29"}, {"-0001-12-31", 2, "0", "0001-02-28"},
		{"-9999-01-01", 239975, "0", "9999-12-01"}, {"9999-12-31", -239975, "0", "-9999-01-31"}, {"-9999-01-31", 12, "0", "-9998-01-31"}, {"9998-12-31", 12, "0", "9999-12-31"}, {"-9999-12-31", -11, "0", "-9999-01-31"},
		{"2024-01-31Z", 1, "0", "2024-02-29Z"}, {"2024-01-31-14:00", 1, "0", "2024-02-29-14:00"}, {"2024-01-31T23:59:59.5+14:00", 1, "0", "2024-02-29T23:59:59.5+14:00"}, {"2024-01-31T00:00:00", -2, "0", "2023-11-30T00:00:00"},
		// the months come first
		{"2024-01-31", 1, "86400", "2024-03-01"}, {"2023-01-31", 1, "86400", "2023-03-01"}, {"2024-03-31", -1, "-86400", "2024-02-28"}, {"2024-02-28T23:59:59Z", 12, "86401", "2025-03-02T00:00:00Z"}, {"2024-01-31T23:59:59.5", 1, "0.5", "2024-03-01T00:00:00"}, {"0001-01-31", -11, "-86400", "-0001-02-28"}, {"9999-12-31", -1, "2678400", "9999-12-31"}, {"-9999-01-01", 1, "-2678400", "-9999-01-01"},
	} {
		m, e := moment.Add(mom(c.m), c.months, dec(c.seconds))
		is(t, fmt.Sprint("Add of ", c), m, e, mom(c.want), api.OK)
	}
}

func TestAddSeconds(t *testing.T) { // P6.5
	tiny := "0." + zeros(59) + "1"
	for _, c := range []added{
		{"2024-01-01", 0, "0", "2024-01-01"}, {"2024-01-01", 0, "86399.9", "2024-01-01"}, {"2024-01-01", 0, "86399." + nines(55), "2024-01-01"}, {"2024-01-01", 0, "86400", "2024-01-02"}, {"2024-01-01", 0, "-0.1", "2023-12-31"}, {"2024-01-01", 0, "-" + tiny, "2023-12-31"}, {"2024-01-01", 0, tiny, "2024-01-01"}, {"2024-01-01", 0, "0." + nines(60), "2024-01-01"}, {"2024-01-01", 0, "-1", "2023-12-31"}, {"2024-01-01", 0, "-86400", "2023-12-31"}, {"2024-01-01", 0, "-86400.1", "2023-12-30"}, {"2024-01-01", 0, "-86399.9", "2023-12-31"}, {"2024-03-01", 0, "-1", "2024-02-29"}, {"2024-02-28", 0, "86400", "2024-02-29"}, {"2023-02-28", 0, "86400", "2023-03-01"}, {"0001-01-01", 0, "-1", "-0001-12-31"}, {"-0001-12-31", 0, "86400", "0001-01-01"}, {"2024-01-01+14:00", 0, "-0.5", "2023-12-31+14:00"}, {"2024-01-01-14:00", 0, "86399", "2024-01-01-14:00"}, {"2000-01-01", 0, "31622400", "2001-01-01"}, {"9999-12-31", 0, "86399.9", "9999-12-31"}, {"-9999-01-01", 0, "0", "-9999-01-01"}, {"-9999-01-01", 0, "631075795200", "9999-12-31"}, {"9999-12-31", 0, "-631075795200", "-9999-01-01"}, {"-9999-01-01", 0, "631075881599.9", "9999-12-31"},
		{"23:59:59.75", 0, "0.5", "00:00:00.25"}, {"00:00:00", 0, "-0.25", "23:59:59.75"}, {"00:00:00+01:00", 0, "-1", "23:59:59+01:00"}, {"12:00:00", 0, "86400", "12:00:00"}, {"12:00:00", 0, "-86400", "12:00:00"}, {"12:00:00Z", 0, "43200", "00:00:00Z"}, {"12:00:00", 0, "43199.5", "23:59:59.5"}, {"12:00:00", 0, "-43200", "00:00:00"}, {"12:00:00", 0, "-43200.5", "23:59:59.5"}, {"00:00:00", 0, "999999999999", "01:46:39"}, {"00:00:00", 0, "-999999999999", "22:13:21"}, {"00:00:00", 0, "999999999999.5", "01:46:39.5"}, {"00:00:00", 0, "-999999999999.5", "22:13:20.5"}, {"00:00:00", 0, "-999999999999." + nines(48), "22:13:20." + zeros(47) + "1"}, {"12:34:56", 0, "0", "12:34:56"}, {"12:34:56.5", 0, "3.5", "12:35:00"}, {"12:59:59", 0, "1", "13:00:00"}, {"12:00:00", 0, "3661.25", "13:01:01.25"},
		{"2024-02-29T12:00:00", 0, "-0.25", "2024-02-29T11:59:59.75"}, {"2024-02-29T23:59:59.5", 0, "0.5", "2024-03-01T00:00:00"}, {"2024-03-01T00:00:00Z", 0, "-1", "2024-02-29T23:59:59Z"}, {"0001-01-01T00:00:00", 0, "-0.5", "-0001-12-31T23:59:59.5"}, {"-0001-12-31T23:59:59.5-01:00", 0, "0.5", "0001-01-01T00:00:00-01:00"}, {"-9999-01-01T00:00:00", 0, "631075881599.5", "9999-12-31T23:59:59.5"}, {"9999-12-31T23:59:59.5", 0, "-631075881599.5", "-9999-01-01T00:00:00"}, {"9999-12-31T23:59:59-14:00", 0, "0.5", "9999-12-31T23:59:59.5-14:00"}, {"-9999-01-01T00:00:01+14:00", 0, "-1", "-9999-01-01T00:00:00+14:00"},
		// the sum of the digits behind the points has more digits than a decimal, what is left of it has not
		{"00:00:59.5", 0, "0.5" + zeros(58) + "1", "00:01:00." + zeros(59) + "1"}, {"00:00:59." + nines(58), 0, "0." + zeros(57) + "101", "00:01:00." + zeros(59) + "1"}, {"00:00:00." + nines(60), 0, tiny, "00:00:01"}, {"00:00:00." + nines(60), 0, "9." + zeros(58) + "1", ""}, {"00:00:00." + nines(60), 0, "59." + zeros(57) + "1", "00:01:00." + zeros(58) + "99"}, {"00:00:00." + nines(60), 0, "59." + nines(58), "00:01:00." + nines(57) + "899"}, {"00:00:00." + nines(60), 0, "-0." + nines(60), "00:00:00"}, {"00:00:09.9", 0, "-9." + nines(59), ""}, {"00:00:19.9", 0, "-9." + nines(59), "00:00:09.9" + zeros(57) + "1"}, {"00:00:00", 0, "-59." + nines(58), "23:59:00." + zeros(57) + "1"}, {"00:00:59." + nines(58), 0, "-" + tiny, ""}, {"00:01:00." + zeros(59) + "1", 0, "-" + tiny, "00:01:00"}, {"00:00:00." + zeros(59) + "1", 0, "-59." + nines(58), "23:59:00." + zeros(57) + "101"}, {"23:59:59." + nines(58), 0, "0." + zeros(57) + "1", "00:00:00"}, {"23:59:59." + nines(58), 0, "0." + zeros(57) + "101", "00:00:00." + zeros(59) + "1"},
	} {
		m, e := moment.Add(mom(c.m), c.months, dec(c.seconds))
		if c.want == "" {
			is(t, fmt.Sprint("Add of ", c), m, e, api.Moment{}, api.ErrRange)
		} else {
			is(t, fmt.Sprint("Add of ", c), m, e, mom(c.want), api.OK)
		}
	}
}

func TestAddErrors(t *testing.T) { // P6.5
	tiny := "0." + zeros(59) + "1"
	for _, c := range []struct {
		added
		e api.Errno
	}{
		{added{m: "2024-01-01", months: 300001, seconds: "0"}, api.ErrArg}, {added{m: "2024-01-01", months: -300001, seconds: "0"}, api.ErrArg}, {added{m: "2024-01-01", months: math.MaxInt, seconds: "0"}, api.ErrArg}, {added{m: "2024-01-01", months: math.MinInt, seconds: "0"}, api.ErrArg}, {added{m: "2024-01-01", months: 300001, seconds: nines(60)}, api.ErrArg}, {added{m: "2024-01-01", months: -300001, seconds: "-" + nines(60)}, api.ErrArg},
		{added{m: "12:00:00", months: 1, seconds: "0"}, api.ErrArg}, {added{m: "12:00:00Z", months: -1, seconds: "0"}, api.ErrArg}, {added{m: "12:00:00", months: 300000, seconds: "0"}, api.ErrArg}, {added{m: "12:00:00", months: 12, seconds: nines(60)}, api.ErrArg}, {added{m: "12:00:00", months: 300001, seconds: "0"}, api.ErrArg},
		{added{m: "2024-01-01", seconds: "1000000000000"}, api.ErrRange}, {added{m: "2024-01-01", seconds: "-1000000000000"}, api.ErrRange}, {added{m: "12:00:00", seconds: "1000000000000"}, api.ErrRange}, {added{m: "12:00:00", seconds: "-1000000000000"}, api.ErrRange}, {added{m: "12:00:00", seconds: "1000000000000.5"}, api.ErrRange}, {added{m: "12:00:00", seconds: "-1000000000000." + nines(47)}, api.ErrRange}, {added{m: "12:00:00Z", seconds: nines(60)}, api.ErrRange}, {added{m: "12:00:00Z", seconds: "-" + nines(60)}, api.ErrRange}, {added{m: "2024-01-01T00:00:00", months: 300000, seconds: nines(60)}, api.ErrRange},
		{added{m: "2024-01-01", seconds: "999999999999"}, api.ErrRange}, {added{m: "2024-01-01", seconds: "-999999999999"}, api.ErrRange}, {added{m: "-9999-01-01", seconds: "999999999999." + nines(48)}, api.ErrRange}, {added{m: "9999-12-31T23:59:59", seconds: "-999999999999." + nines(48)}, api.ErrRange},
		{added{m: "2024-01-01", months: 300000, seconds: "0"}, api.ErrRange}, {added{m: "2024-01-01", months: -300000, seconds: "0"}, api.ErrRange}, {added{m: "-9999-01-01", months: 300000, seconds: "0"}, api.ErrRange}, {added{m: "9999-12-31", months: -300000, seconds: "0"}, api.ErrRange}, {added{m: "-9999-01-01", months: 239976, seconds: "0"}, api.ErrRange}, {added{m: "9999-12-31", months: -239976, seconds: "0"}, api.ErrRange}, {added{m: "9999-12-31", months: 1, seconds: "0"}, api.ErrRange}, {added{m: "-9999-01-01", months: -1, seconds: "0"}, api.ErrRange}, {added{m: "9999-01-01T00:00:00Z", months: 12, seconds: "0"}, api.ErrRange},
		// seconds do not lead back from a year beyond the last one
		{added{m: "9999-12-31", months: 1, seconds: "-86400000"}, api.ErrRange}, {added{m: "-9999-01-01", months: -1, seconds: "86400000"}, api.ErrRange}, {added{m: "9999-12-31T00:00:00", months: 12, seconds: "-631075795200"}, api.ErrRange}, {added{m: "2024-01-01", months: 300000, seconds: "-999999999999"}, api.ErrRange}, {added{m: "2024-01-01", months: -300000, seconds: "999999999999"}, api.ErrRange},
		{added{m: "9999-12-31", seconds: "86400"}, api.ErrRange}, {added{m: "-9999-01-01", seconds: "-0.1"}, api.ErrRange}, {added{m: "-9999-01-01", seconds: "-" + tiny}, api.ErrRange}, {added{m: "9999-12-31T23:59:59.5Z", seconds: "0.5"}, api.ErrRange}, {added{m: "-9999-01-01T00:00:00", seconds: "-" + tiny}, api.ErrRange}, {added{m: "9999-12-31T23:59:59+14:00", seconds: "1"}, api.ErrRange}, {added{m: "-9999-01-01T00:00:00-14:00", seconds: "-1"}, api.ErrRange}, {added{m: "9999-11-30", months: 1, seconds: "172800"}, api.ErrRange},
		{added{m: "00:00:09." + nines(59), seconds: "1"}, api.ErrRange}, {added{m: "00:00:10", seconds: tiny}, api.ErrRange}, {added{m: "2024-01-01T00:00:01", seconds: tiny}, api.ErrRange}, {added{m: "00:00:00." + nines(60), seconds: "1"}, api.ErrRange}, {added{m: "00:00:00." + nines(60), seconds: "-1"}, api.ErrRange}, {added{m: "00:00:00", seconds: "-" + tiny}, api.ErrRange}, {added{m: "00:00:00." + zeros(59) + "1", seconds: "10"}, api.ErrRange}, {added{m: "2024-01-01T00:00:00." + nines(60), seconds: "0." + nines(60)}, api.ErrRange}, {added{m: "23:59:59." + nines(58), seconds: tiny}, api.ErrRange},
	} {
		m, e := moment.Add(mom(c.m), c.months, dec(c.seconds))
		is(t, fmt.Sprint("Add of ", c.added), m, e, api.Moment{}, c.e)
	}
	for _, a := range wrongDecimals() {
		for _, s := range []string{"2024-01-01", "12:00:00", "2024-01-01T12:00:00Z"} {
			for _, months := range []int{0, 1, 300000, 300001} {
				m, e := moment.Add(mom(s), months, a)
				is(t, fmt.Sprint("Add of ", a, " to ", s), m, e, api.Moment{}, api.ErrArg)
			}
		}
	}
}

// TestWrongMoments hands moments that are not valid to all functions, also with what would be out of range.
func TestWrongMoments(t *testing.T) { // P6.1 to P6.5
	for _, m := range wrong() {
		name := fmt.Sprint(m)
		if s, e := moment.Text(m); s != "" || e != api.ErrArg {
			t.Errorf("Text of %s: %s, %d", name, s, e)
		}
		if n, e := moment.Days(m); n != 0 || e != api.ErrArg {
			t.Errorf("Days of %s: %d, %d", name, n, e)
		}
		n, e := moment.Normal(m)
		is(t, "Normal of "+name, n, e, api.Moment{}, api.ErrArg)
		for _, s := range []string{"0", "1", "-" + nines(60), nines(60)} {
			for _, months := range []int{0, 1, -300000, math.MaxInt} {
				n, e := moment.Add(m, months, dec(s))
				is(t, "Add to "+name, n, e, api.Moment{}, api.ErrArg)
			}
		}
		for _, b := range []api.Moment{m, date(2024, 3, 1), clock(12, 0, "0"), zoned(both(date(2024, 3, 1), clock(12, 0, "0")), 60)} {
			for _, pair := range [][2]api.Moment{{m, b}, {b, m}} {
				order, told, e := moment.Cmp(pair[0], pair[1])
				equal, e2 := moment.Equal(pair[0], pair[1])
				if order != 0 || told || equal || e != api.ErrArg || e2 != api.ErrArg {
					t.Errorf("Cmp of %v: %d, %v, %d, %v, %d", pair, order, told, e, equal, e2)
				}
			}
		}
	}
}

func TestReadLong(t *testing.T) { // P6.2
	long := strings.Repeat("0", 1000000)
	m, e := moment.Read(api.MtTime, "12:00:05.5"+long)
	is(t, "Read of a long text", m, e, clock(12, 0, "5.5"), api.OK)
	m, e = moment.Read(api.MtTime, "12:00:05.5"+long+"1")
	is(t, "Read of a long text", m, e, api.Moment{}, api.ErrRange)
	for _, s := range []string{"12:00:05.5" + long + "x", long, "2024-01-" + long, long + "-01-01", "12:00:00" + long, "12:00:00Z" + long, "2024-01-01T" + long} {
		isForm(t, s)
	}
}
