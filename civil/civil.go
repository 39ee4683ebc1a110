// Package civil: days and dates: see ../shared/doc/01-civil.md.
package civil

import (
	"strconv"
	"strings"

	"shiftbell/api"
	"shiftbell/numeral"
)

const (
	monthsOfYear = 12
	daysOfYear   = 365
	daysOfLong   = daysOfYear + 1
	february     = 2
)

// lengths of the months of a year that is not long.
var lengths = [monthsOfYear]int{31, 28, 31, 30, 31, 30, 31, 31, 30, 31, 30, 31}

// Length of a month.
func Length(y, m int) (int, api.Errno) {
	if !isYear(y) || m < 1 || m > monthsOfYear {
		return 0, api.ErrRange
	}
	return length(y, m), api.OK
}

// Days up to a date.
func Days(y, m, d int) (int, api.Errno) {
	most, err := Length(y, m)
	if err != api.OK {
		return 0, err
	}
	if d < 1 || d > most {
		return 0, api.ErrRange
	}
	return monthStart(y, m) + d - 1, api.OK
}

// Date of a day.
func Date(n int) (int, int, int, api.Errno) {
	if !isDay(n) {
		return 0, 0, 0, api.ErrRange
	}
	y := yearOf(n)
	m, d := monthOf(y, n-yearStart(y))
	return y, m, d, api.OK
}

// Weekday of a day.
func Weekday(n int) (int, api.Errno) {
	if !isDay(n) {
		return 0, api.ErrRange
	}
	return (n + 1) % 7, api.OK
}

// Add months to a day.
func Add(n, months int) (int, api.Errno) {
	y, m, d, err := Date(n)
	if err != api.OK {
		return 0, err
	}
	if months < -api.MaxMonths || months > api.MaxMonths {
		return 0, api.ErrArg
	}
	// From the first month of year 0 on, so that the year is the whole part; what is below 0 has year 0 or less.
	all := y*monthsOfYear + m - 1 + months
	if !isYear(all / monthsOfYear) {
		return 0, api.ErrRange
	}
	y, m = all/monthsOfYear, all%monthsOfYear+1
	return monthStart(y, m) + min(d, length(y, m)) - 1, api.OK
}

// Text of a day.
func Text(n int) (string, api.Errno) {
	y, m, d, err := Date(n)
	if err != api.OK {
		return "", err
	}
	return digits(y, 4) + "-" + digits(m, 2) + "-" + digits(d, 2), api.OK
}

// Read a day.
func Read(s string) (int, api.Errno) {
	if len(s) != len("yyyy-mm-dd") || s[4] != '-' || s[7] != '-' {
		return 0, api.ErrForm
	}
	y, yearRead := numeral.Digits(s[:4])
	m, monthRead := numeral.Digits(s[5:7])
	d, dayRead := numeral.Digits(s[8:])
	if !yearRead || !monthRead || !dayRead {
		return 0, api.ErrForm
	}
	return Days(int(y), int(m), int(d))
}

func isYear(y int) bool { return y >= 1 && y <= api.MaxYear }

func isDay(n int) bool { return n >= 0 && n <= api.MaxDay }

func isLong(y int) bool { return y%4 == 0 && y%100 != 0 || y%400 == 0 }

// length wants a year and a month that there are.
func length(y, m int) int {
	if m == february && isLong(y) {
		return lengths[m-1] + 1
	}
	return lengths[m-1]
}

// yearStart is the first day of a year, of the one behind MaxYear too.
func yearStart(y int) int {
	past := y - 1
	return past*daysOfYear + past/4 - past/100 + past/400
}

func monthStart(y, m int) int {
	n := yearStart(y)
	for i := 1; i < m; i++ {
		n += length(y, i)
	}
	return n
}

func yearOf(n int) int {
	// Were all years long, it would be this one: it is never too late, and some 20 years early at the most.
	y := n/daysOfLong + 1
	for yearStart(y+1) <= n {
		y++
	}
	return y
}

// monthOf answers the month, and the day in it, with so many days of the year past.
func monthOf(y, past int) (int, int) {
	m := 1
	for past >= length(y, m) {
		past -= length(y, m)
		m++
	}
	return m, past + 1
}

func digits(n, width int) string {
	s := strconv.Itoa(n)
	return strings.Repeat("0", width-len(s)) + s
}
