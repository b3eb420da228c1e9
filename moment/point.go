package moment

import (
	"cmp"
	"strconv"

	"gabarit/api"
	"gabarit/decimal"
)

const daySeconds = 86400

// point is a number of seconds: whole ones, and a part from 0 on and below 1. Both together may have more digits than a decimal.
type point struct {
	whole int64
	part  api.Decimal
}

// split returns the number of a decimal whose whole seconds fit.
func split(a api.Decimal) point {
	one := decimal.Of(1)
	whole, _ := decimal.Div(a, one, 0) // rounded towards zero
	part, _ := decimal.Sub(a, whole)
	text, _ := decimal.Text(whole)
	n, _ := strconv.ParseInt(text, 10, 64)
	if part.Neg {
		n--
		part, _ = decimal.Add(part, one)
	}
	return point{n, part}
}

func (x point) later(seconds int64) point { return point{x.whole + seconds, x.part} }

// plus looks first at what y lacks to the next second: the sum of both parts may have a digit too many, what is left of it behind a whole second has not.
func plus(x, y point) point {
	lack, _ := decimal.Sub(decimal.Of(1), y.part)
	if left, _ := decimal.Sub(x.part, lack); !left.Neg {
		return point{x.whole + y.whole + 1, left}
	}
	part, _ := decimal.Add(x.part, y.part)
	return point{x.whole + y.whole, part}
}

func compare(x, y point) int {
	if x.whole != y.whole {
		return cmp.Compare(x.whole, y.whole)
	}
	order, _ := decimal.Cmp(x.part, y.part)
	return order
}

// clockPoint returns the point of a moment without its zone.
func clockPoint(m api.Moment) point {
	p := point{0, decimal.Of(0)}
	if hasTime(m.Kind) {
		p = split(m.Second).later(int64(3600*m.Hour + 60*m.Minute))
	}
	if hasDate(m.Kind) {
		p = p.later(daySeconds * dayNumber(m))
	}
	return p
}

func pointOf(m api.Moment) point { return clockPoint(m).later(int64(-60 * m.Zone)) }

// momentAt returns the moment of a kind, without a zone, in which a point lies; a time is that of any day.
func momentAt(kind int, p point) (api.Moment, api.Errno) {
	m := api.Moment{Kind: kind}
	day, whole := divide(p.whole, daySeconds)
	if hasDate(kind) && !setDay(&m, day) {
		return api.Moment{}, api.ErrRange
	}
	if !hasTime(kind) {
		return m, api.OK
	}
	second, e := decimal.Add(decimal.Of(whole%60), p.part)
	if e != api.OK {
		return api.Moment{}, e
	}
	m.Hour, m.Minute, m.Second = int(whole/3600), int(whole/60%60), second
	return m, api.OK
}
