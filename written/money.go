package written

import (
	"strconv"

	"earshot/api"
)

// money has the forms of sums of money.
type money struct{}

func (money) kind() api.FormKind { return api.KindMoney }

func (money) speak(w pieces) []string {
	if w.shape != "$0" && w.shape != "$0.0" {
		return nil
	}
	dollars, cents := cardinalOf(w.numbers[0]), 0
	if len(w.numbers) == 2 {
		cents = fieldOf(w.numbers[1], 2)
		if cents < 1 {
			return nil
		}
	}
	if dollars < 0 {
		return nil
	}
	return spokenMoney(dollars, cents)
}

// spokenMoney returns the words of a sum of money.
func spokenMoney(dollars, cents int) []string {
	var words []string
	if dollars > 0 || cents == 0 {
		words = append(count(dollars), counted(dollars, "dollar"))
	}
	if dollars > 0 && cents > 0 {
		words = append(words, "and")
	}
	if cents > 0 {
		words = append(append(words, count(cents)...), counted(cents, "cent"))
	}
	return words
}

func (money) write(p *parser) string {
	if cents := p.attempt(p.cents); cents > 0 {
		return "$0." + twoDigits(cents)
	}
	dollars, ok := p.whole()
	if !ok || !p.take(counted(dollars, "dollar")) {
		return ""
	}
	written := "$" + strconv.Itoa(dollars)
	if dollars == 0 {
		return written
	}
	if cents := p.after("and", p.cents); cents > 0 {
		written += "." + twoDigits(cents)
	}
	return written
}

// cents takes a number of cents.
func (p *parser) cents() int {
	n := p.belowHundred()
	if p.take(counted(n, "cent")) {
		return n
	}
	return 0
}
