// Tests of P9.3: Day, Leap.

package written_test

import (
	"fmt"
	"math"
	"testing"
	"time"

	"earshot/written"
)

func TestLeap(t *testing.T) {
	for year := -3000; year <= 3000; year++ {
		want := time.Date(year, 12, 31, 0, 0, 0, 0, time.UTC).YearDay() == 366
		if written.Leap(year) != want {
			t.Errorf("%d: %t", year, !want)
		}
	}
	for year, want := range map[int]bool{math.MaxInt: false, math.MinInt: true, math.MaxInt - 3: true, math.MinInt + 1: false, 1 << 40: true, 400 * (1<<40 + 1): true, 100 * (1<<40 + 1): false, -400: true, -100: false, 0: true} {
		if written.Leap(year) != want {
			t.Errorf("%d: %t", year, !want)
		}
	}
}

// TestDays compares all days with the calendar of Go's library, and counts those of each 400 years.
func TestDays(t *testing.T) {
	days := map[int]int{}
	for year := 998; year <= 3001; year++ {
		for month := -1; month <= 14; month++ {
			for day := -1; day <= 33; day++ {
				d := time.Date(year, time.Month(month), day, 0, 0, 0, 0, time.UTC)
				want := 1000 <= year && year < 3000 && d.Year() == year && int(d.Month()) == month && d.Day() == day
				if written.Day(year, month, day) != want {
					t.Fatalf("%d-%d-%d: %t", year, month, day, !want)
				}
				if want {
					days[year]++
				}
			}
		}
	}
	for first := 1000; first <= 2600; first++ {
		sum := 0
		for year := first; year < first+400; year++ {
			sum += days[year]
		}
		if sum != 146097 {
			t.Errorf("%d days in the 400 years from %d on", sum, first)
		}
	}
}

func TestDayRange(t *testing.T) {
	for _, n := range []int{math.MinInt, math.MaxInt, -2000, 0, 999, 3000} {
		if written.Day(n, 1, 1) {
			t.Errorf("a day of the year %d", n)
		}
	}
	for _, n := range []int{math.MinInt, math.MaxInt, -1, 0, 13} {
		if written.Day(2000, n, 1) {
			t.Errorf("a day of the month %d", n)
		}
	}
	for _, n := range []int{math.MinInt, math.MaxInt, -1, 0, 32} {
		if written.Day(2000, 1, n) {
			t.Errorf("a day %d", n)
		}
	}
}

// TestDates compares dates of all years with the definitions: all days if few years are like the year, or else some.
func TestDates(t *testing.T) {
	for year := 1000; year < 3000; year++ {
		all := year%1000 < 12 || year == 1900 || year == 2024
		for month := 1; month <= 12; month++ {
			for day := 1; day <= 31; day++ {
				date := fmt.Sprintf("%d-%02d-%02d", year, month, day)
				switch {
				case !written.Day(year, month, day):
					if all {
						checkWrong(t, date)
					}
				case all || (year+month+day)%60 == 0:
					checkDefinition(t, date)
				}
			}
		}
	}
}
