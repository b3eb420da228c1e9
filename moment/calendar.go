package moment

import (
	"sort"

	"gabarit/api"
)

// Years are counted here: the year before 1 is 0, the one before that -1.
const (
	firstYear = 1 - api.MaxYear
	lastYear  = api.MaxYear
)

// monthDays are the days of the months of a year that is not long.
var monthDays = [12]int{31, 28, 31, 30, 31, 30, 31, 31, 30, 31, 30, 31}

func counted(year int) int {
	if year < 0 {
		return year + 1
	}
	return year
}

// written returns the year that is counted so.
func written(year int) int {
	if year <= 0 {
		return year - 1
	}
	return year
}

func isLong(year int) bool { return year%4 == 0 && year%100 != 0 || year%400 == 0 }

// daysOf returns how many days a month of a counted year has.
func daysOf(year, month int) int {
	if month == 2 && isLong(year) {
		return 29
	}
	return monthDays[month-1]
}

// divide rounds down, so that the rest is not negative.
func divide(n, by int64) (whole, rest int64) {
	whole, rest = n/by, n%by
	if rest < 0 {
		return whole - 1, rest + by
	}
	return whole, rest
}

// firstDay returns the day number of the first day of a counted year.
func firstDay(year int) int64 {
	years := int64(year) - 1
	fourths, _ := divide(years, 4)
	hundredths, _ := divide(years, 100)
	again, _ := divide(years, 400)
	return 365*years + fourths - hundredths + again
}

func dayNumber(m api.Moment) int64 {
	year := counted(m.Year)
	day := firstDay(year) + int64(m.Day-1)
	for month := 1; month < m.Month; month++ {
		day += int64(daysOf(year, month))
	}
	return day
}

// setDay gives a moment the date with a day number; it returns false if that is beyond the years.
func setDay(m *api.Moment, day int64) bool {
	if day < firstDay(firstYear) || day >= firstDay(lastYear+1) {
		return false
	}
	year := firstYear + sort.Search(lastYear-firstYear, func(i int) bool { return day < firstDay(firstYear+i+1) })
	month, rest := 1, int(day-firstDay(year))
	for rest >= daysOf(year, month) {
		rest -= daysOf(year, month)
		month++
	}
	m.Year, m.Month, m.Day = written(year), month, rest+1
	return true
}

// monthsLater adds months to a date. It may lead to a year beyond the last one.
func monthsLater(m api.Moment, months int) api.Moment {
	years, month := divide(int64(12*counted(m.Year)+m.Month-1+months), 12)
	m.Year, m.Month = written(int(years)), int(month)+1
	m.Day = min(m.Day, daysOf(int(years), m.Month))
	return m
}
