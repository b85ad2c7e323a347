package dates_test

import (
	"math"
	"testing"
	"time"

	"langdoc/api"
	"langdoc/dates"
)

// P8.1
func TestLeap(t *testing.T) {
	for year, want := range map[int]bool{
		1900: false, 1904: true, 1996: true, 2000: true, 2023: false, 2024: true, 2026: false, 2100: false, 2200: false, 2400: true, 1800: false, 1600: true,
		0: true, 4: true, 100: false, 1: false, -1: false, -2: false, -4: true, -100: false, -400: true, -396: true, math.MinInt: true, math.MinInt + 8: false /* a multiple of 100 */, math.MaxInt: false, math.MaxInt - 3: true,
	} {
		if got := dates.Leap(year); got != want {
			t.Errorf("Leap(%d) = %t", year, got)
		}
	}
	for year := -1000; year <= 3000; year++ {
		days := time.Date(year, time.December, 31, 0, 0, 0, 0, time.UTC).YearDay()
		if dates.Leap(year) != (days == 366) {
			t.Errorf("Leap(%d) = %t", year, dates.Leap(year))
		}
	}
}

// P8.2, P8.3, P8.4, P8.5: every day from the first to the last one.
func TestEveryDay(t *testing.T) {
	day := time.Date(1900, time.January, 1, 0, 0, 0, 0, time.UTC)
	before := ""
	for n := 1; n <= api.MaxDay; n++ {
		year, month, mday := day.Year(), int(day.Month()), day.Day()
		if got, ok := dates.Day(year, month, mday); got != n || !ok {
			t.Fatalf("Day(%d, %d, %d) = %d, %t, want %d", year, month, mday, got, ok, n)
		}
		if y, m, d, ok := dates.Civil(n); y != year || m != month || d != mday || !ok {
			t.Fatalf("Civil(%d) = %d, %d, %d, %t", n, y, m, d, ok)
		}
		// The package time counts from Sunday.
		if got := dates.Weekday(n); got != (int(day.Weekday())+6)%7 {
			t.Fatalf("Weekday(%d) = %d", n, got)
		}
		text := dates.Text(n)
		if text != day.Format(time.DateOnly) || text <= before {
			t.Fatalf("Text(%d) = %s after %s", n, text, before)
		}
		if got, ok := dates.Parse(text); got != n || !ok {
			t.Fatalf("Parse(%s) = %d, %t", text, got, ok)
		}
		before = text
		day = day.AddDate(0, 0, 1)
	}
	if day.Year() != 2200 || day.YearDay() != 1 {
		t.Error("the last day is not December 31, 2199, but the one before", day)
	}
}

// P8.2: of all triples around the limits, those of the calendar have a day.
func TestDayRefuses(t *testing.T) {
	for year := 1890; year <= 2210; year++ {
		for month := -1; month <= 14; month++ {
			for day := -1; day <= 33; day++ {
				date := time.Date(year, time.Month(month), day, 0, 0, 0, 0, time.UTC)
				exists := year >= 1900 && year <= 2199 && date.Year() == year && int(date.Month()) == month && date.Day() == day
				if n, ok := dates.Day(year, month, day); ok != exists || !ok && n != 0 {
					t.Fatalf("Day(%d, %d, %d) = %d, %t", year, month, day, n, ok)
				}
			}
		}
	}
	for _, n := range []int{math.MinInt, -1 << 32, 1 << 32, math.MaxInt} {
		for _, c := range [][3]int{{n, 1, 1}, {2000, n, 1}, {2000, 1, n}, {2000 + n, 1, 1}, {2000, 1 + n, 1}, {2000, 1, 1 + n}, {n, n, n}} {
			if got, ok := dates.Day(c[0], c[1], c[2]); got != 0 || ok {
				t.Errorf("Day%v = %d, %t", c, got, ok)
			}
		}
	}
}

// P8.2, P8.3, P8.4: numbers that are no days.
func TestNoDays(t *testing.T) {
	for _, n := range []int{0, -1, -7, -365, api.MaxDay + 1, api.MaxDay + 2, 200000, 1<<32 + 5, math.MinInt, math.MaxInt} {
		if y, m, d, ok := dates.Civil(n); y != 0 || m != 0 || d != 0 || ok {
			t.Errorf("Civil(%d) = %d, %d, %d, %t", n, y, m, d, ok)
		}
		if dates.Weekday(n) != -1 || dates.Text(n) != "" {
			t.Errorf("Weekday, Text of %d: %d, %q", n, dates.Weekday(n), dates.Text(n))
		}
	}
}

// P8.2, P8.3, P8.4
func TestKnownDays(t *testing.T) {
	for n, want := range map[int]string{1: "1900-01-01", 31: "1900-01-31", 32: "1900-02-01", 59: "1900-02-28", 60: "1900-03-01", 365: "1900-12-31", 366: "1901-01-01", 36525: "2000-01-01", 36584: "2000-02-29", 46344: "2026-11-19", 109573: "2199-12-31"} {
		if got := dates.Text(n); got != want {
			t.Errorf("Text(%d) = %s, want %s", n, got, want)
		}
		if got, ok := dates.Parse(want); got != n || !ok {
			t.Errorf("Parse(%s) = %d, %t", want, got, ok)
		}
	}
	if dates.Weekday(1) != 0 || dates.Weekday(7) != 6 || dates.Weekday(8) != 0 {
		t.Error("the first day is a Monday")
	}
}

// P8.4: texts that no day has.
func TestParseRefuses(t *testing.T) {
	for _, s := range []string{
		"", "-", "--", "1900", "1900-01", "1900-1-1", "1900-01-1", "1900-1-01", "1900-01-001", "01900-01-01", "900-01-01", "00-01-01-1", "1900-02-29", "2100-02-29", "2001-02-29", "1900-01-00", "1900-00-01", "1900-13-01", "1900-04-31", "1900-01-32", "1899-12-31", "2200-01-01", "0000-01-01", "9999-12-31",
		"19000101", "1900/01/01", "1900-01/01", "1900.01.01", "1900_01_01", "+900-01-01", "+1900-1-01", "1900-+1-01", "1900-01-+1", "1900--1-01", "1900-01--1", "-1900-01-1", " 1900-01-01", "1900-01-01 ", "1900-01-01\n", "1900- 1-01", "1900-01- 1", "1900-0a-01", "1900-01-0\x00", "1900-01-01-", "1900-01-01-01", "-190-01-01", "190 -01-01", "0x76-01-01", "1_00-01-01", "19\xef\xbc\x90-01-", "01-01-1900", "1900-01-1x",
	} {
		if n, ok := dates.Parse(s); n != 0 || ok {
			t.Errorf("Parse(%q) = %d, %t", s, n, ok)
		}
	}
}

// P8.4, P8.5: a text with one byte changed, left out or added is read only if it is the text of a day.
func TestParseOfChangedTexts(t *testing.T) {
	check := func(s string) {
		n, ok := dates.Parse(s)
		date, err := time.Parse(time.DateOnly, s)
		isText := err == nil && date.Year() >= 1900 && date.Year() <= 2199
		if ok != isText || ok && dates.Text(n) != s || !ok && n != 0 {
			t.Errorf("Parse(%q) = %d, %t", s, n, ok)
		}
	}
	for _, s := range []string{"1900-01-01", "2000-02-29", "2026-11-19", "2199-12-31"} {
		for i := range len(s) + 1 {
			for c := range 256 {
				b := string([]byte{byte(c)})
				check(s[:i] + b + s[i:])
				if i < len(s) {
					check(s[:i] + b + s[i+1:])
				}
			}
			if i < len(s) {
				check(s[:i] + s[i+1:])
			}
		}
	}
}
