package written

import (
	"strconv"

	"earshot/api"
	"earshot/whole"
)

// clock has the forms of times.
type clock struct{}

func (clock) kind() api.FormKind { return api.KindTime }

func (clock) speak(w pieces) []string {
	if w.shape != "0:0" {
		return nil
	}
	hours, minutes := fieldOf(w.numbers[0], 2), fieldOf(w.numbers[1], 2)
	switch {
	case !whole.Within(hours, 0, 23) || !whole.Within(minutes, 0, 59):
		return nil
	case minutes == 0:
		return append(count(hours), "hours")
	}
	return append(count(hours), pair(minutes)...)
}

func (clock) write(p *parser) string {
	hours, ok := p.whole()
	if !ok || hours > 23 {
		return ""
	}
	if p.take("hours") {
		return twoDigits(hours) + ":00"
	}
	minutes := p.pair()
	if !whole.Within(minutes, 1, 59) {
		return ""
	}
	return twoDigits(hours) + ":" + twoDigits(minutes)
}

// date has the forms of dates.
type date struct{}

func (date) kind() api.FormKind { return api.KindDate }

func (date) speak(w pieces) []string {
	if w.shape != "0-0-0" {
		return nil
	}
	year, month, day := fieldOf(w.numbers[0], 4), fieldOf(w.numbers[1], 2), fieldOf(w.numbers[2], 2)
	if !Day(year, month, day) {
		return nil
	}
	words := append([]string{"the"}, spokenOrdinal(day)...)
	words = append(words, "of", monthName(month))
	return append(words, spokenYear(year)...)
}

func (date) write(p *parser) string {
	day := p.after("the", p.ordinal)
	if !p.take("of") {
		return ""
	}
	month := p.month()
	year := p.year()
	if !Day(year, month, day) {
		return ""
	}
	return strconv.Itoa(year) + "-" + twoDigits(month) + "-" + twoDigits(day)
}

// isRound reports whether a year is spoken as a cardinal.
func isRound(year int) bool { return year%1000 < 10 }

// spokenYear returns the words of a year.
func spokenYear(year int) []string {
	switch {
	case isRound(year):
		return count(year)
	case year%100 == 0:
		return append(count(year/100), "hundred")
	}
	return append(count(year/100), pair(year%100)...)
}

// year takes a year; it may be one that no date has.
func (p *parser) year() int {
	if year := p.attempt(p.roundYear); year > 0 {
		return year
	}
	century, rest := p.belowHundred(), 0
	if !p.take("hundred") {
		rest = p.pair()
		if rest == 0 {
			return 0
		}
	}
	if year := 100*century + rest; !isRound(year) {
		return year
	}
	return 0
}

// roundYear takes a year that is spoken as a cardinal; it may be one that no date has.
func (p *parser) roundYear() int {
	if year := p.count(); isRound(year) {
		return year
	}
	return 0
}

// Day reports whether there is such a date.
func Day(year, month, day int) bool {
	return whole.Within(year, 1000, 2999) && whole.Within(month, 1, 12) && whole.Within(day, 1, lastDay(year, month))
}

// lastDay returns the last day of a month.
func lastDay(year, month int) int {
	switch month {
	case 4, 6, 9, 11:
		return 30
	case 2:
		if Leap(year) {
			return 29
		}
		return 28
	}
	return 31
}

// Leap reports whether a year has 366 days.
func Leap(year int) bool { return year%4 == 0 && (year%100 != 0 || year%400 == 0) }
