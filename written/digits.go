package written

import (
	"strconv"

	"earshot/api"
	"earshot/whole"
)

// digits has the forms of strings of digits.
type digits struct{}

func (digits) kind() api.FormKind { return api.KindDigits }

func (digits) speak(w pieces) []string {
	if w.shape != "0" || !areDigits(w.numbers[0]) {
		return nil
	}
	return append([]string{"digits"}, digitByDigit(w.numbers[0])...)
}

func (digits) write(p *parser) string {
	if !p.take("digits") {
		return ""
	}
	if list := p.digits(); areDigits(list) {
		return list
	}
	return ""
}

// areDigits reports whether digits are spoken one by one, because they are not those of a number.
func areDigits(list string) bool {
	return whole.Within(len(list), 2, 20) && (list[0] == '0' || len(list) > 12)
}

// decimal has the forms of fractions.
type decimal struct{}

func (decimal) kind() api.FormKind { return api.KindDecimal }

func (decimal) speak(w pieces) []string {
	if w.shape != "0.0" && w.shape != "-0.0" {
		return nil
	}
	words := spokenCount(w.numbers[0])
	if len(words) == 0 || !arePlaces(w.numbers[1]) {
		return nil
	}
	words = append(append(words, "point"), digitByDigit(w.numbers[1])...)
	if w.shape == "-0.0" {
		return negative(words)
	}
	return words
}

func (decimal) write(p *parser) string {
	sign := p.sign()
	n, ok := p.whole()
	if !ok || !p.take("point") {
		return ""
	}
	places := p.digits()
	if !arePlaces(places) {
		return ""
	}
	return sign + strconv.Itoa(n) + "." + places
}

// arePlaces reports whether there are as many digits as there may be after a period.
func arePlaces(list string) bool { return whole.Within(len(list), 1, 12) }
