package written

import (
	"strconv"
	"strings"

	"earshot/api"
	"earshot/whole"
)

// number has the forms of cardinals.
type number struct{}

func (number) kind() api.FormKind { return api.KindNumber }

func (number) speak(w pieces) []string {
	switch w.shape {
	case "0":
		return spokenCount(w.numbers[0])
	case "-0":
		if w.numbers[0] != "0" {
			return negative(spokenCount(w.numbers[0]))
		}
	}
	return nil
}

func (number) write(p *parser) string {
	sign := p.sign()
	n, ok := p.whole()
	if !ok || sign != "" && n == 0 {
		return ""
	}
	return sign + strconv.Itoa(n)
}

// spokenCount returns the words of a number that is not negative, or none if no cardinal is written with these digits.
func spokenCount(digits string) []string {
	if n := cardinalOf(digits); n >= 0 {
		return count(n)
	}
	return nil
}

// negative returns words, if there are any, behind that of the minus sign.
func negative(words []string) []string {
	if len(words) == 0 {
		return nil
	}
	return append([]string{"minus"}, words...)
}

// ordinal has the forms of ordinals.
type ordinal struct{}

func (ordinal) kind() api.FormKind { return api.KindOrdinal }

func (ordinal) speak(w pieces) []string {
	if len(w.numbers) != 1 {
		return nil
	}
	n := cardinalOf(w.numbers[0])
	if n < 1 || w.shape != "0"+ending(n) {
		return nil
	}
	return spokenOrdinal(n)
}

func (ordinal) write(p *parser) string {
	n := p.ordinal()
	if n == 0 {
		return ""
	}
	return writtenOrdinal(n)
}

// spokenOrdinal returns the words of an ordinal.
func spokenOrdinal(n int) []string {
	words := count(n)
	last := len(words) - 1
	words[last] = ordinalWord(words[last])
	return words
}

func writtenOrdinal(n int) string { return strconv.Itoa(n) + ending(n) }

// ending returns the letters at the end of a written ordinal.
func ending(n int) string {
	if whole.Within(n%100, 11, 13) {
		return "th"
	}
	switch n % 10 {
	case 1:
		return "st"
	case 2:
		return "nd"
	case 3:
		return "rd"
	}
	return "th"
}

// Cardinal returns the spoken form of a cardinal.
func Cardinal(n int) (string, api.Errno) {
	if !whole.Within(n, -greatest, greatest) {
		return "", api.ErrArg
	}
	return Speak(strconv.Itoa(n))
}

// Ordinal returns the spoken form of an ordinal.
func Ordinal(n int) (string, api.Errno) {
	if !whole.Within(n, 1, greatest) {
		return "", api.ErrArg
	}
	return Speak(writtenOrdinal(n))
}

// Number returns the cardinal with a spoken form.
func Number(spoken string) (int, api.Errno) {
	if e := length(spoken); e != api.OK {
		return 0, e
	}
	n, err := strconv.Atoi(writeAs(number{}, strings.Split(spoken, " ")))
	if err != nil {
		return 0, api.ErrText
	}
	return n, api.OK
}
