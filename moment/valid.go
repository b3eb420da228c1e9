package moment

import (
	"gabarit/api"
	"gabarit/decimal"
)

const (
	lastMinute = 59  // of an hour
	maxZone    = 840 // in minutes
)

func isKind(kind int) bool  { return hasDate(kind) || hasTime(kind) }
func hasDate(kind int) bool { return kind == api.MtDate || kind == api.MtBoth }
func hasTime(kind int) bool { return kind == api.MtTime || kind == api.MtBoth }

func within(n, low, high int) bool { return low <= n && n <= high }

func valid(m api.Moment) bool {
	return isKind(m.Kind) && validDate(m) && validTime(m) && validZone(m)
}

func validDate(m api.Moment) bool {
	if !hasDate(m.Kind) {
		return m.Year == 0 && m.Month == 0 && m.Day == 0
	}
	return within(m.Year, -api.MaxYear, api.MaxYear) && m.Year != 0 && within(m.Month, 1, 12) && within(m.Day, 1, daysOf(counted(m.Year), m.Month))
}

func validTime(m api.Moment) bool {
	if !hasTime(m.Kind) {
		return m.Hour == 0 && m.Minute == 0 && m.Second == api.Decimal{}
	}
	return within(m.Hour, 0, 23) && within(m.Minute, 0, lastMinute) && !m.Second.Neg && isBelow(m.Second, decimal.Of(60))
}

func validZone(m api.Moment) bool {
	return within(m.Zone, -maxZone, maxZone) && (m.Zoned || m.Zone == 0)
}

// isBelow reports whether a is a valid decimal, and less than b.
func isBelow(a, b api.Decimal) bool {
	order, e := decimal.Cmp(a, b)
	return e == api.OK && order < 0
}
