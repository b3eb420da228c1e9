package moment_test

import (
	"fmt"
	"math/big"
	"regexp"
	"strconv"
	"strings"
	"testing"
	"time"

	"gabarit/api"
)

func zeros(n int) string { return strings.Repeat("0", n) }

func nines(n int) string { return strings.Repeat("9", n) }

// unit is how many parts a second has in the models: all decimals are whole numbers of parts.
var unit = new(big.Int).Exp(big.NewInt(10), big.NewInt(60), nil)

var canonicalDigits = regexp.MustCompile(`^[1-9][0-9]{0,59}$`)

// modelDecimal says what a valid decimal is.
func modelDecimal(a api.Decimal) bool {
	if a == (api.Decimal{Digits: "0"}) {
		return true
	}
	wholeOrShort := a.Scale == 0 || !strings.HasSuffix(a.Digits, "0")
	return canonicalDigits.MatchString(a.Digits) && wholeOrShort && a.Scale >= 0 && a.Scale <= 60
}

// parts returns how many parts of a second a valid decimal is.
func parts(a api.Decimal) *big.Int {
	n, _ := new(big.Int).SetString(a.Digits+zeros(60-a.Scale), 10)
	if a.Neg {
		n.Neg(n)
	}
	return n
}

// decimalOf is the decimal of a number of parts; ErrRange if there is none.
func decimalOf(n *big.Int) (api.Decimal, api.Errno) {
	if n.Sign() == 0 {
		return api.Decimal{Digits: "0"}, api.OK
	}
	digits := new(big.Int).Abs(n).String()
	none := min(60, len(digits)-len(strings.TrimRight(digits, "0")))
	digits = digits[:len(digits)-none]
	if len(digits) > 60 {
		return api.Decimal{}, api.ErrRange
	}
	return api.Decimal{Neg: n.Sign() < 0, Digits: digits, Scale: 60 - none}, api.OK
}

// partsOf reads a number with a point that may have too many digits behind it for a decimal: then they are no zeros.
func partsOf(text string) (n *big.Int, exact bool) {
	unsigned, neg := strings.CutPrefix(text, "-")
	whole, behind, _ := strings.Cut(unsigned, ".")
	behind = strings.TrimRight(behind, "0")
	if len(behind) > 60 {
		return nil, false
	}
	n, _ = new(big.Int).SetString(whole+behind+zeros(60-len(behind)), 10)
	if neg {
		n.Neg(n)
	}
	return n, true
}

// dec is the decimal of a number.
func dec(text string) api.Decimal {
	n, exact := partsOf(text)
	if !exact {
		panic("no decimal: " + text)
	}
	a, e := decimalOf(n)
	if e != api.OK {
		panic("no decimal: " + text)
	}
	return a
}

// wrongDecimals are not valid, though some of them write a number.
func wrongDecimals() []api.Decimal {
	return []api.Decimal{{}, {Neg: true}, {Scale: 1}, {Neg: true, Digits: "0"}, {Digits: "0", Scale: 1}, {Digits: "00"}, {Digits: "05"}, {Digits: "10", Scale: 1}, {Digits: "1", Scale: 61}, {Digits: "1", Scale: -1}, {Digits: nines(61), Scale: 60}, {Digits: nines(61)}, {Digits: "1.5"}, {Digits: "x"}, {Digits: "-1"}, {Digits: "+1"}, {Digits: " 1"}, {Digits: "\u0661"}}
}

// countedYear is a year as the time package counts them.
func countedYear(year int) int {
	if year < 0 {
		year++
	}
	return year
}

func writtenYear(year int) int {
	if year < 1 {
		year--
	}
	return year
}

// modelLast is the last day of a month, as the time package knows it.
func modelLast(year, month int) int {
	return time.Date(countedYear(year), time.Month(month+1), 0, 0, 0, 0, 0, time.UTC).Day()
}

// modelValid says what a valid moment is in other words than the program does.
func modelValid(m api.Moment) bool {
	date := api.Moment{Kind: api.MtDate, Year: m.Year, Month: m.Month, Day: m.Day}
	clock := api.Moment{Kind: api.MtTime, Hour: m.Hour, Minute: m.Minute, Second: m.Second}
	both := m
	both.Zoned, both.Zone = false, 0
	switch m.Kind {
	case api.MtDate:
		if both != date {
			return false
		}
	case api.MtTime:
		if both != clock {
			return false
		}
	case api.MtBoth:
	default:
		return false
	}
	if m.Kind != api.MtTime {
		if m.Year == 0 || m.Year < -9999 || m.Year > 9999 || m.Month < 1 || m.Month > 12 || m.Day < 1 || m.Day > modelLast(m.Year, m.Month) {
			return false
		}
	}
	if m.Kind != api.MtDate {
		if m.Hour < 0 || m.Hour > 23 || m.Minute < 0 || m.Minute > 59 || !modelDecimal(m.Second) {
			return false
		}
		if n := parts(m.Second); n.Sign() < 0 || n.Cmp(new(big.Int).Mul(unit, big.NewInt(60))) >= 0 {
			return false
		}
	}
	if !m.Zoned {
		return m.Zone == 0
	}
	return m.Zone >= -840 && m.Zone <= 840
}

const (
	dateForm = `(-?[0-9]{4})-([0-9]{2})-([0-9]{2})`
	timeForm = `([0-9]{2}):([0-9]{2}):([0-9]{2}(?:\.[0-9]+)?)`
	zoneForm = `(Z|[+-][0-9]{2}:[0-5][0-9])?`
)

var forms = map[int]*regexp.Regexp{
	api.MtDate: regexp.MustCompile(`\A` + dateForm + `()()()` + zoneForm + `\z`),
	api.MtTime: regexp.MustCompile(`\A()()()` + timeForm + zoneForm + `\z`),
	api.MtBoth: regexp.MustCompile(`\A` + dateForm + `T` + timeForm + zoneForm + `\z`),
}

// modelRead reads by regular expressions.
func modelRead(kind int, s string) (api.Moment, api.Errno) {
	form := forms[kind]
	if form == nil {
		return api.Moment{}, api.ErrArg
	}
	l := form.FindStringSubmatch(s)
	if l == nil {
		return api.Moment{}, api.ErrForm
	}
	var n [6]int
	for i := range 5 {
		n[i], _ = strconv.Atoi(l[i+1])
	}
	m := api.Moment{Kind: kind, Year: n[0], Month: n[1], Day: n[2], Hour: n[3], Minute: n[4], Zoned: l[7] != ""}
	if kind != api.MtDate {
		second, exact := partsOf(l[6])
		if !exact {
			return api.Moment{}, api.ErrRange
		}
		a, e := decimalOf(second)
		if e != api.OK {
			return api.Moment{}, e
		}
		m.Second = a
	}
	if len(l[7]) > 1 {
		hours, _ := strconv.Atoi(l[7][1:3])
		minutes, _ := strconv.Atoi(l[7][4:])
		m.Zone = 60*hours + minutes
		if l[7][0] == '-' {
			m.Zone = -m.Zone
		}
	}
	if !modelValid(m) {
		return api.Moment{}, api.ErrForm
	}
	return m, api.OK
}

// guess is the kind of a text.
func guess(s string) int {
	switch {
	case strings.Contains(s, "T"):
		return api.MtBoth
	case strings.Contains(s, ":") && strings.IndexByte(s, ':') == 2:
		return api.MtTime
	}
	return api.MtDate
}

// mom is the moment of a text.
func mom(s string) api.Moment {
	m, e := modelRead(guess(s), s)
	if e != api.OK {
		panic("no moment: " + s)
	}
	return m
}

// modelText writes a moment with a format.
func modelText(m api.Moment) string {
	s, sign := "", ""
	if m.Year < 0 {
		sign = "-"
		m.Year = -m.Year
	}
	if m.Kind != api.MtTime {
		s = fmt.Sprintf("%s%04d-%02d-%02d", sign, m.Year, m.Month, m.Day)
	}
	if m.Kind == api.MtBoth {
		s += "T"
	}
	if m.Kind != api.MtDate {
		second := fmt.Sprintf("%062d", parts(m.Second))
		s += fmt.Sprintf("%02d:%02d:%s", m.Hour, m.Minute, second[:2])
		if behind := strings.TrimRight(second[2:], "0"); behind != "" {
			s += "." + behind
		}
	}
	switch {
	case m.Zoned && m.Zone == 0:
		s += "Z"
	case m.Zoned:
		sign = "+"
		if m.Zone < 0 {
			sign, m.Zone = "-", -m.Zone
		}
		s += fmt.Sprintf("%s%02d:%02d", sign, m.Zone/60, m.Zone%60)
	}
	return s
}

// beginning is the first day of the year 1.
var beginning = time.Date(1, 1, 1, 0, 0, 0, 0, time.UTC)

// modelDays is the day number, by the time package.
func modelDays(m api.Moment) int64 {
	return (time.Date(countedYear(m.Year), time.Month(m.Month), m.Day, 0, 0, 0, 0, time.UTC).Unix() - beginning.Unix()) / 86400
}

// modelPoint is the point of a moment in parts of a second.
func modelPoint(m api.Moment) *big.Int {
	seconds := int64(3600*m.Hour + 60*m.Minute - 60*m.Zone)
	if m.Kind != api.MtTime {
		seconds += 86400 * modelDays(m)
	}
	point := new(big.Int).Mul(big.NewInt(seconds), unit)
	if m.Kind != api.MtDate {
		point.Add(point, parts(m.Second))
	}
	return point
}

// modelAt is the moment in which a point lies.
func modelAt(kind int, point *big.Int) (api.Moment, api.Errno) {
	seconds, part := new(big.Int).DivMod(point, unit, new(big.Int))
	t := time.Unix(seconds.Int64()+beginning.Unix(), 0).UTC()
	m := api.Moment{Kind: kind}
	if kind != api.MtTime {
		m.Year, m.Month, m.Day = writtenYear(t.Year()), int(t.Month()), t.Day()
		if m.Year < -9999 || m.Year > 9999 {
			return api.Moment{}, api.ErrRange
		}
	}
	if kind != api.MtDate {
		second, e := decimalOf(part.Add(part, new(big.Int).Mul(big.NewInt(int64(t.Second())), unit)))
		if e != api.OK {
			return api.Moment{}, e
		}
		m.Hour, m.Minute, m.Second = t.Hour(), t.Minute(), second
	}
	return m, api.OK
}

func modelNormal(m api.Moment) (api.Moment, api.Errno) {
	if !modelValid(m) || !m.Zoned || m.Kind == api.MtDate {
		return api.Moment{}, api.ErrArg
	}
	n, e := modelAt(m.Kind, modelPoint(m))
	n.Zoned = e == api.OK
	return n, e
}

func modelCmp(a, b api.Moment) (order int, told bool, e api.Errno) {
	if !modelValid(a) || !modelValid(b) || a.Kind != b.Kind {
		return 0, false, api.ErrArg
	}
	left := new(big.Int).Sub(modelPoint(a), modelPoint(b))
	far := new(big.Int).Abs(left).Cmp(new(big.Int).Mul(unit, big.NewInt(50400))) > 0
	if a.Zoned != b.Zoned && !far {
		return 0, false, api.OK
	}
	return left.Sign(), true, api.OK
}

// modelAdd goes through the months one by one.
func modelAdd(m api.Moment, months int, seconds api.Decimal) (api.Moment, api.Errno) {
	if !modelValid(m) || !modelDecimal(seconds) || months < -300000 || months > 300000 || m.Kind == api.MtTime && months != 0 {
		return api.Moment{}, api.ErrArg
	}
	if new(big.Int).Abs(parts(seconds)).Cmp(new(big.Int).Mul(unit, big.NewInt(1000000000000))) >= 0 {
		return api.Moment{}, api.ErrRange
	}
	zoned, zone := m.Zoned, m.Zone
	m.Zoned, m.Zone = false, 0
	if m.Kind != api.MtTime {
		for ; months > 0; months-- {
			if m.Month++; m.Month > 12 {
				m.Month, m.Year = 1, writtenYear(countedYear(m.Year)+1)
			}
		}
		for ; months < 0; months++ {
			if m.Month--; m.Month < 1 {
				m.Month, m.Year = 12, writtenYear(countedYear(m.Year)-1)
			}
		}
		m.Day = min(m.Day, modelLast(m.Year, m.Month))
		if m.Year < -9999 || m.Year > 9999 {
			return api.Moment{}, api.ErrRange
		}
	}
	point := modelPoint(m)
	n, e := modelAt(m.Kind, point.Add(point, parts(seconds)))
	if e == api.OK {
		n.Zoned, n.Zone = zoned, zone
	}
	return n, e
}

// is checks that a function returned this moment and this error.
func is(t *testing.T, what string, m api.Moment, e api.Errno, want api.Moment, wanted api.Errno) {
	t.Helper()
	if m != want || e != wanted {
		t.Fatalf("%.300s: %v, %d, not %v, %d", what, m, e, want, wanted)
	}
}

// results counts errors, to tell that all of them were met.
type results map[string]int

func (r results) met(what string, e api.Errno) { r[fmt.Sprint(what, " ", e)]++ }

func (r results) atLeast(t *testing.T, n int, all ...string) {
	t.Helper()
	for _, s := range all {
		if r[s] < n {
			t.Errorf("%s only %d times", s, r[s])
		}
	}
}

// dice is a repeatable source of numbers.
type dice uint32

func (d *dice) below(n int) int {
	*d = *d*1664525 + 1013904223
	return int(*d>>8) % n
}

func (d *dice) of(l ...string) string { return l[d.below(len(l))] }

func (d *dice) from(l ...int) int { return l[d.below(len(l))] }

// behind is some digits, often near the most that a decimal may have.
func (d *dice) behind() string {
	n := d.from(0, 1, 2, 9, 57, 58, 59, 60, d.below(61))
	s := ""
	for len(s) < n {
		s += d.of("0", "9", "5", "1", zeros(20), nines(20), zeros(40), nines(40), fmt.Sprint(d.below(1000)))
	}
	return s[:n]
}

// second is that of a time, or a little more.
func (d *dice) second(below int) api.Decimal {
	for {
		n, _ := partsOf(fmt.Sprint(d.from(0, 0, 1, 9, 10, 59, d.below(below)), ".", d.behind()))
		if a, e := decimalOf(n); e == api.OK {
			return a
		}
	}
}

// moment is a valid one.
func (d *dice) moment(kind int) api.Moment {
	m := api.Moment{Kind: kind}
	if kind != api.MtTime {
		m.Year = d.from(-9999, -9998, -401, -101, -5, -4, -2, -1, 1, 2, 4, 5, 100, 400, 1900, 2000, 2024, 9998, 9999, 1+d.below(9999), -1-d.below(9999))
		m.Month = d.from(1, 2, 3, 12, 1+d.below(12))
		m.Day = min(d.from(1, 2, 28, 29, 30, 31, 1+d.below(31)), modelLast(m.Year, m.Month))
		switch d.below(10) {
		case 0:
			m.Year, m.Month, m.Day = -9999, 1, 1
		case 1:
			m.Year, m.Month, m.Day = 9999, 12, 31
		}
	}
	if kind != api.MtDate {
		m.Hour, m.Minute, m.Second = d.from(0, 23, d.below(24)), d.from(0, 59, d.below(60)), d.second(60)
	}
	if m.Zoned = d.below(3) > 0; m.Zoned {
		m.Zone = d.from(0, 1, -1, 60, 839, 840, -840, d.below(1681)-840)
	}
	return m
}

// near is a valid moment of the same kind, little or much away.
func (d *dice) near(m api.Moment) api.Moment {
	n := m
	switch d.below(5) {
	case 0:
		return d.moment(m.Kind)
	case 1:
		n.Zone, n.Zoned = d.moment(m.Kind).Zone, true
	case 2:
		n.Zone, n.Zoned = 0, false
	case 3:
		n.Day += d.below(3) - 1
	}
	if n.Kind != api.MtDate {
		switch d.below(4) {
		case 0:
			n.Second = d.second(60)
		case 1:
			n.Hour += d.from(-14, 14, -13, 13, 1, -1)
		case 2:
			n.Minute += d.from(-1, 1)
		}
	}
	if !modelValid(n) {
		return m
	}
	return n
}

// spoilt is a moment in which one field is another one, so that it is often not valid.
func (d *dice) spoilt(m api.Moment) api.Moment {
	n := d.from(-10000, -9999, -1, 0, 1, 12, 13, 23, 24, 28, 29, 30, 31, 32, 59, 60, 840, 841, -840, -841, 9999, 10000, 1<<62, -1<<63, 1<<63-1)
	l := wrongDecimals()
	switch d.below(9) {
	case 0:
		m.Kind = d.from(0, 1, 2, 3, 4, n)
	case 1:
		m.Year = n
	case 2:
		m.Month = n
	case 3:
		m.Day = n
	case 4:
		m.Hour = n
	case 5:
		m.Minute = n
	case 6:
		m.Second = []api.Decimal{{}, dec("0"), dec("-0.5"), dec("60"), dec("59." + nines(58)), dec("-" + nines(60)), l[d.below(len(l))]}[d.below(7)]
	case 7:
		m.Zoned = !m.Zoned
	case 8:
		m.Zone = n
	}
	return m
}
