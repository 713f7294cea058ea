package written

import (
	"slices"
	"strconv"
)

// parser takes words from the front of a list. Its methods for numbers return 0 where the list does not begin with such a number; those whose comments end with 'or no word' have taken none then.
type parser struct {
	words []string
}

// take takes a word, if it is the next one.
func (p *parser) take(word string) bool {
	if len(p.words) == 0 || p.words[0] != word {
		return false
	}
	p.words = p.words[1:]
	return true
}

// attempt takes the number that a method takes, or no word.
func (p *parser) attempt(read func() int) int {
	words := p.words
	n := read()
	if n == 0 {
		p.words = words
	}
	return n
}

// before takes a number and a word behind it, or no word.
func (p *parser) before(word string, read func() int) int {
	return p.attempt(func() int {
		if n := read(); p.take(word) {
			return n
		}
		return 0
	})
}

// after takes a number and a word before it, or no word.
func (p *parser) after(word string, read func() int) int {
	return p.attempt(func() int {
		if p.take(word) {
			return read()
		}
		return 0
	})
}

// one takes the word that names a number from least to greatest, or no word.
func (p *parser) one(name func(n int) string, least, greatest int) int {
	for n := least; n <= greatest; n++ {
		if p.take(name(n)) {
			return n
		}
	}
	return 0
}

// unit takes a number from 1 to 9, or no word.
func (p *parser) unit() int { return p.one(smallName, 1, 9) }

// month takes a month, or no word.
func (p *parser) month() int { return p.one(monthName, 1, 12) }

// belowHundred takes a number from 1 to 99, or no word.
func (p *parser) belowHundred() int {
	if n := p.one(tensName, 2, 9); n > 0 {
		return 10*n + p.unit()
	}
	return p.one(smallName, 1, 19)
}

// group takes a number from 1 to 999, or no word.
func (p *parser) group() int { return p.last(0) }

// last takes the last three digits of a number of which n is what comes before them, and returns all of it.
func (p *parser) last(n int) int {
	n += 100 * p.before("hundred", p.unit)
	if n == 0 {
		return p.belowHundred()
	}
	return n + p.after("and", p.belowHundred)
}

// count takes a number from 1 on, or no word.
func (p *parser) count() int {
	n := 0
	for _, x := range powers {
		n += x.size * p.before(x.word, p.group)
	}
	return p.last(n)
}

// whole takes a number that is not negative, and reports whether there is one.
func (p *parser) whole() (int, bool) {
	if p.take("zero") {
		return 0, true
	}
	n := p.count()
	return n, n > 0
}

// ordinal takes an ordinal, which ends with the first ordinal word that there is, or no word.
func (p *parser) ordinal() int {
	for i, word := range p.words {
		if last := cardinalWord(word); last != "" {
			inner := parser{words: slices.Concat(p.words[:i], []string{last})}
			n := inner.count()
			if len(inner.words) > 0 {
				return 0
			}
			p.words = p.words[i+1:]
			return n
		}
	}
	return 0
}

// pair takes the last two of four digits, which are not both 0.
func (p *parser) pair() int {
	if n := p.after("oh", p.unit); n > 0 {
		return n
	}
	if n := p.belowHundred(); n > 9 {
		return n
	}
	return 0
}

// sign takes the word of a minus sign, and returns the sign, or an empty string.
func (p *parser) sign() string {
	if p.take("minus") {
		return "-"
	}
	return ""
}

// digits takes all words of digits that there are.
func (p *parser) digits() string {
	list := ""
	for {
		n := p.unit()
		if n == 0 && !p.take("zero") {
			return list
		}
		list += strconv.Itoa(n)
	}
}
