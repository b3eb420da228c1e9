package moment

import (
	"math"
	"strconv"
	"strings"

	"gabarit/api"
	"gabarit/decimal"
)

const digits = "0123456789"

// taker takes a run of some signs away from the front of a text: as many as there are, but not more than most. It leaves by a panic with ErrForm if there are fewer than least.
type taker func(signs string, least, most int) string

// read returns the moment that a text writes, or leaves by a panic with an error.
func read(kind int, s string) api.Moment {
	m, second := api.Moment{Kind: kind}, ""
	take := taker(func(signs string, least, most int) string {
		n := 0
		for n < min(most, len(s)) && strings.IndexByte(signs, s[n]) >= 0 {
			n++
		}
		if n < least {
			panic(api.ErrForm)
		}
		taken := s[:n]
		s = s[n:]
		return taken
	})
	if hasDate(kind) {
		take.date(&m)
	}
	if kind == api.MtBoth {
		take("T", 1, 1)
	}
	if hasTime(kind) {
		second = take.time(&m)
	}
	take.zone(&m)
	if s != "" {
		panic(api.ErrForm)
	}
	if hasTime(kind) {
		m.Second = secondOf(second)
	}
	if !valid(m) {
		panic(api.ErrForm)
	}
	return m
}

// secondOf is called when the whole text has the form, because ErrForm comes before ErrRange.
func secondOf(text string) api.Decimal {
	second, e := decimal.Read(text)
	if e != api.OK {
		panic(e)
	}
	return second
}

func (take taker) number(length int) int {
	n, _ := strconv.Atoi(take(digits, length, length))
	return n
}

func (take taker) date(m *api.Moment) {
	minus := take("-", 0, 1)
	m.Year = take.number(4)
	if minus != "" {
		m.Year = -m.Year
	}
	take("-", 1, 1)
	m.Month = take.number(2)
	take("-", 1, 1)
	m.Day = take.number(2)
}

// time returns the text of the second.
func (take taker) time(m *api.Moment) string {
	m.Hour = take.number(2)
	take(":", 1, 1)
	m.Minute = take.number(2)
	take(":", 1, 1)
	second := take(digits, 2, 2)
	if take(".", 0, 1) != "" {
		second += "." + take(digits, 1, math.MaxInt)
	}
	return second
}

func (take taker) zone(m *api.Moment) {
	sign := take("Z+-", 0, 1)
	m.Zoned = sign != ""
	if sign == "" || sign == "Z" {
		return
	}
	hours := take.number(2)
	take(":", 1, 1)
	minutes := take.number(2)
	if minutes > lastMinute {
		panic(api.ErrForm)
	}
	m.Zone = 60*hours + minutes
	if sign == "-" {
		m.Zone = -m.Zone
	}
}

// padded returns a text with zeros in front.
func padded(text string, length int) string {
	return strings.Repeat("0", max(length-len(text), 0)) + text
}

func number(n, length int) string { return padded(strconv.Itoa(n), length) }

func dateText(m api.Moment) string {
	minus := ""
	if m.Year < 0 {
		minus = "-"
	}
	return minus + number(max(m.Year, -m.Year), 4) + "-" + number(m.Month, 2) + "-" + number(m.Day, 2)
}

func timeText(m api.Moment) string {
	text, _ := decimal.Text(m.Second)
	whole, behind, broken := strings.Cut(text, ".")
	text = number(m.Hour, 2) + ":" + number(m.Minute, 2) + ":" + padded(whole, 2)
	if broken {
		text += "." + behind
	}
	return text
}

func zoneText(m api.Moment) string {
	switch {
	case !m.Zoned:
		return ""
	case m.Zone == 0:
		return "Z"
	case m.Zone < 0:
		return "-" + number(-m.Zone/60, 2) + ":" + number(-m.Zone%60, 2)
	}
	return "+" + number(m.Zone/60, 2) + ":" + number(m.Zone%60, 2)
}
