// Package dates is layer 8: days. See shared/doc/08-dates.md.
package dates

import (
	"strconv"
	"strings"

	"langdoc/api"
)

const (
	firstYear  = 1900
	lastYear   = 2199
	lastMonth  = 12
	leapMonth  = 2
	daysInWeek = 7
	textLength = len("1900-01-01")
)

// monthDays are the lengths of the months in a year without a leap day.
var monthDays = [lastMonth]int{31, 28, 31, 30, 31, 30, 31, 31, 30, 31, 30, 31}

// Leap is specified in P8.1.
func Leap(year int) bool {
	return year%4 == 0 && year%100 != 0 || year%400 == 0
}

// Day is specified in P8.2.
func Day(year, month, day int) (int, bool) {
	if year < firstYear || year > lastYear || month < 1 || month > lastMonth {
		return 0, false
	}
	if day < 1 || day > daysOfMonth(year, month) {
		return 0, false
	}
	n := day
	for y := firstYear; y < year; y++ {
		n += daysOfYear(y)
	}
	for m := 1; m < month; m++ {
		n += daysOfMonth(year, m)
	}
	return n, true
}

// Civil is specified in P8.2.
func Civil(n int) (int, int, int, bool) {
	if !isDay(n) {
		return 0, 0, 0, false
	}
	year, month, day := firstYear, 1, n
	for day > daysOfYear(year) {
		day -= daysOfYear(year)
		year++
	}
	for day > daysOfMonth(year, month) {
		day -= daysOfMonth(year, month)
		month++
	}
	return year, month, day, true
}

// Weekday is specified in P8.3.
func Weekday(n int) int {
	if !isDay(n) {
		return -1
	}
	return (n - 1) % daysInWeek
}

// Text is specified in P8.4.
func Text(n int) string {
	year, month, day, ok := Civil(n)
	if !ok {
		return ""
	}
	return strconv.Itoa(year) + "-" + twoDigits(month) + "-" + twoDigits(day)
}

// Parse is specified in P8.4.
func Parse(s string) (int, bool) {
	parts := strings.SplitN(s, "-", 4)
	if len(s) != textLength || len(parts) != 3 {
		return 0, false
	}
	n, ok := Day(number(parts[0]), number(parts[1]), number(parts[2]))
	// The parts may have other lengths or signs than those that Text writes.
	if !ok || Text(n) != s {
		return 0, false
	}
	return n, true
}

func isDay(n int) bool {
	return n >= 1 && n <= api.MaxDay
}

func daysOfYear(year int) int {
	if Leap(year) {
		return 366
	}
	return 365
}

func daysOfMonth(year, month int) int {
	if month == leapMonth && Leap(year) {
		return monthDays[month-1] + 1
	}
	return monthDays[month-1]
}

// number returns 0, which is no year, month or day, for a text that is no number.
func number(s string) int {
	n, err := strconv.Atoi(s)
	if err != nil {
		return 0
	}
	return n
}

func twoDigits(n int) string {
	if n < 10 {
		return "0" + strconv.Itoa(n)
	}
	return strconv.Itoa(n)
}
