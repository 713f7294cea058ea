package written

import "strings"

// The words of the numbers from 0 to 19, and of the tens from 20 to 90.
var (
	small = [...]string{
		"zero", "one", "two", "three", "four", "five", "six", "seven", "eight", "nine",
		"ten", "eleven", "twelve", "thirteen", "fourteen", "fifteen", "sixteen", "seventeen", "eighteen", "nineteen",
	}
	tens = [...]string{"twenty", "thirty", "forty", "fifty", "sixty", "seventy", "eighty", "ninety"}
)

// powers are the powers of 1000 that have words, the greatest one first.
var powers = [...]struct {
	size int
	word string
}{{1000000000, "billion"}, {1000000, "million"}, {1000, "thousand"}}

// irregular are the words of which the ordinal follows no rule.
var irregular = [...]struct{ cardinal, ordinal string }{
	{"one", "first"}, {"two", "second"}, {"three", "third"}, {"five", "fifth"}, {"eight", "eighth"}, {"nine", "ninth"}, {"twelve", "twelfth"},
}

var months = [...]string{
	"january", "february", "march", "april", "may", "june", "july", "august", "september", "october", "november", "december",
}

// others are the words of spoken forms that stand for no number and no month.
var others = [...]string{
	"minus", "and", "digits", "point", "hours", "oh", "the", "of", "dollar", "dollars", "cent", "cents",
}

// The following functions name a number, so that a parser can look for it.

func smallName(n int) string { return small[n] }
func tensName(n int) string  { return tens[n-2] }
func monthName(n int) string { return months[n-1] }

// belowHundred returns the words of a number from 0 to 99.
func belowHundred(n int) []string {
	switch {
	case n < 20:
		return []string{smallName(n)}
	case n%10 == 0:
		return []string{tensName(n / 10)}
	}
	return []string{tensName(n / 10), smallName(n % 10)}
}

// count returns the words of a number that is not negative.
func count(n int) []string {
	var words []string
	for _, p := range powers {
		if n >= p.size {
			words = append(append(words, count(n/p.size)...), p.word)
			n %= p.size
		}
	}
	if n >= 100 {
		words = append(words, smallName(n/100), "hundred")
		n %= 100
	}
	switch {
	case len(words) == 0:
		return belowHundred(n)
	case n == 0:
		return words
	}
	return append(append(words, "and"), belowHundred(n)...)
}

// pair returns the words of the last two of four digits, which are not both 0.
func pair(n int) []string {
	if n < 10 {
		return []string{"oh", smallName(n)}
	}
	return belowHundred(n)
}

// digitByDigit returns the words of digits, one by one.
func digitByDigit(digits string) []string {
	var words []string
	for _, r := range digits {
		words = append(words, smallName(int(r-'0')))
	}
	return words
}

// counted returns the word of so many things, of which one is given.
func counted(n int, thing string) string {
	if n == 1 {
		return thing
	}
	return thing + "s"
}

// ordinalWord returns the last word of an ordinal, of that of the cardinal.
func ordinalWord(word string) string {
	for _, x := range irregular {
		if x.cardinal == word {
			return x.ordinal
		}
	}
	if stem, ok := strings.CutSuffix(word, "y"); ok {
		return stem + "ieth"
	}
	return word + "th"
}

// cardinalWord returns the word of which a word is the ordinal one, or an empty string if there is none.
func cardinalWord(word string) string {
	for _, x := range irregular {
		if x.ordinal == word {
			return x.cardinal
		}
	}
	stem, ok := strings.CutSuffix(word, "th")
	if !ok {
		return ""
	}
	if ten, ok := strings.CutSuffix(stem, "ie"); ok {
		stem = ten + "y"
	}
	if !counts(stem) || ordinalWord(stem) != word {
		return ""
	}
	return stem
}

// counts reports whether a word is one of those of numbers that are not 0.
func counts(word string) bool {
	for _, p := range powers {
		if p.word == word {
			return true
		}
	}
	p := parser{words: []string{word}}
	return word == "hundred" || p.belowHundred() > 0
}

// occurs reports whether a word occurs in a spoken form.
func occurs(word string) bool {
	for _, other := range others {
		if other == word {
			return true
		}
	}
	p := parser{words: []string{word}}
	return p.take("zero") || p.month() > 0 || counts(word) || cardinalWord(word) != ""
}
