// The definitions of the chapter, computed in another way: written forms by patterns, and spoken forms by guesses that are spoken again.

package written_test

import (
	"fmt"
	"regexp"
	"slices"
	"strconv"
	"strings"
	"time"

	"earshot/api"
)

var (
	ones     = strings.Fields("zero one two three four five six seven eight nine ten eleven twelve thirteen fourteen fifteen sixteen seventeen eighteen nineteen")
	tenWords = strings.Fields("- - twenty thirty forty fifty sixty seventy eighty ninety")
	calendar = strings.Fields("january february march april may june july august september october november december")
	ordinals = map[string]string{
		"one": "first", "two": "second", "three": "third", "four": "fourth", "five": "fifth", "six": "sixth", "seven": "seventh", "eight": "eighth", "nine": "ninth", "ten": "tenth",
		"eleven": "eleventh", "twelve": "twelfth", "thirteen": "thirteenth", "fourteen": "fourteenth", "fifteen": "fifteenth", "sixteen": "sixteenth", "seventeen": "seventeenth", "eighteen": "eighteenth", "nineteen": "nineteenth",
		"twenty": "twentieth", "thirty": "thirtieth", "forty": "fortieth", "fifty": "fiftieth", "sixty": "sixtieth", "seventy": "seventieth", "eighty": "eightieth", "ninety": "ninetieth",
		"hundred": "hundredth", "thousand": "thousandth", "million": "millionth", "billion": "billionth",
	}
)

// patterns are those of all kinds, in their order.
var patterns = []*regexp.Regexp{
	regexp.MustCompile(`^(-?)(0|[1-9][0-9]{0,11})$`),
	regexp.MustCompile(`^([1-9][0-9]{0,11})(st|nd|rd|th)$`),
	regexp.MustCompile(`^(0[0-9]{1,19}|[0-9]{13,20})$`),
	regexp.MustCompile(`^(-?)(0|[1-9][0-9]{0,11})\.([0-9]{1,12})$`),
	regexp.MustCompile(`^([01][0-9]|2[0-3]):([0-5][0-9])$`),
	regexp.MustCompile(`^([12][0-9]{3})-([0-9]{2})-([0-9]{2})$`),
	regexp.MustCompile(`^\$(0|[1-9][0-9]{0,11})(?:\.([0-9]{2}))?$`),
}

// oneForm returns the kind and the spoken form of a written one, or 0. It panics if a string is of two kinds.
func oneForm(written string) (api.FormKind, string) {
	kind, spoken := api.FormKind(0), ""
	for i, p := range patterns {
		if m := p.FindStringSubmatch(written); m != nil {
			k := api.KindNumber + api.FormKind(i)
			if s := spokenMatch(k, m); s != "" {
				if kind != 0 {
					panic(written + " is of two kinds")
				}
				kind, spoken = k, s
			}
		}
	}
	return kind, spoken
}

// spokenMatch returns the spoken form of what the pattern of a kind has found, or an empty string.
func spokenMatch(kind api.FormKind, m []string) string {
	minus := strings.ReplaceAll(m[1], "-", "minus ")
	switch kind {
	case api.KindNumber:
		if m[0] != "-0" {
			return minus + inWords(m[2])
		}
	case api.KindOrdinal:
		if m[2] == suffix(m[1]) {
			return toOrdinal(inWords(m[1]))
		}
	case api.KindDigits:
		return "digits " + oneByOne(m[1])
	case api.KindDecimal:
		return minus + inWords(m[2]) + " point " + oneByOne(m[3])
	case api.KindTime:
		return inWords(m[1]) + " " + tail(m[2], "hours")
	case api.KindDate:
		if d, err := time.Parse("2006-01-02", m[0]); err == nil {
			return "the " + toOrdinal(inWords(m[3])) + " of " + calendar[d.Month()-1] + " " + yearInWords(m[1])
		}
	case api.KindMoney:
		if m[2] != "00" {
			return moneyInWords(m[1], m[2])
		}
	}
	return ""
}

// inWords returns the words of a number that is written with digits, at most 12 of them.
func inWords(digits string) string {
	padded := strings.Repeat("0", 12-len(digits)) + digits
	var words []string
	for i, power := range []string{"billion", "million", "thousand", ""} {
		group := padded[3*i : 3*i+3]
		if group == "000" {
			continue
		}
		if power == "" && group[0] == '0' && words != nil {
			words = append(words, "and")
		}
		if group[0] != '0' {
			words = append(words, ones[group[0]-'0'], "hundred")
			if group[1:] != "00" {
				words = append(words, "and")
			}
		}
		switch n, _ := strconv.Atoi(group[1:]); {
		case n >= 20 && n%10 > 0:
			words = append(words, tenWords[n/10], ones[n%10])
		case n >= 20:
			words = append(words, tenWords[n/10])
		case n > 0:
			words = append(words, ones[n])
		}
		if power != "" {
			words = append(words, power)
		}
	}
	if words == nil {
		return "zero"
	}
	return strings.Join(words, " ")
}

func toOrdinal(cardinal string) string {
	words := strings.Fields(cardinal)
	words[len(words)-1] = ordinals[words[len(words)-1]]
	return strings.Join(words, " ")
}

func suffix(digits string) string {
	if strings.HasSuffix(digits, "11") || strings.HasSuffix(digits, "12") || strings.HasSuffix(digits, "13") {
		return "th"
	}
	if s, ok := map[byte]string{'1': "st", '2': "nd", '3': "rd"}[digits[len(digits)-1]]; ok {
		return s
	}
	return "th"
}

func oneByOne(digits string) string {
	var words []string
	for _, d := range []byte(digits) {
		words = append(words, ones[d-'0'])
	}
	return strings.Join(words, " ")
}

// tail returns the words of two digits at the end of a time or a year, with a word for 00.
func tail(digits, none string) string {
	switch {
	case digits == "00":
		return none
	case digits[0] == '0':
		return "oh " + ones[digits[1]-'0']
	}
	return inWords(digits)
}

func yearInWords(digits string) string {
	if strings.HasPrefix(digits, "100") || strings.HasPrefix(digits, "200") {
		return inWords(digits)
	}
	return inWords(digits[:2]) + " " + tail(digits[2:], "hundred")
}

func moneyInWords(dollars, cents string) string {
	unit := func(digits, one, more string) string {
		if n, _ := strconv.Atoi(digits); n == 1 {
			return "one " + one
		}
		return inWords(digits) + " " + more
	}
	switch {
	case cents == "":
		return unit(dollars, "dollar", "dollars")
	case dollars == "0":
		return unit(cents, "cent", "cents")
	}
	return unit(dollars, "dollar", "dollars") + " and " + unit(cents, "cent", "cents")
}

// guess returns the number that words may stand for, whatever their order.
func guess(words []string) int {
	total, group := 0, 0
	for _, word := range words {
		switch {
		case slices.Contains(ones, word):
			group += slices.Index(ones, word)
		case slices.Contains(tenWords, word):
			group += 10 * slices.Index(tenWords, word)
		case word == "hundred":
			group = group % 10 * 100
		case word == "thousand":
			total, group = total+group%1000*1000, 0
		case word == "million":
			total, group = total+group%1000*1000000, 0
		case word == "billion":
			total, group = total+group%1000*1000000000, 0
		}
	}
	return total + group
}

// guessOrdinal returns the ordinal that words may stand for.
func guessOrdinal(words []string) int {
	words = slices.Clone(words)
	for cardinal, ordinal := range ordinals {
		if last := len(words) - 1; last >= 0 && words[last] == ordinal {
			words[last] = cardinal
			return guess(words)
		}
	}
	return 0
}

func guessDigits(words []string) string {
	list := ""
	for _, word := range words {
		list += strconv.Itoa(slices.Index(ones, word))
	}
	return list
}

// guesses returns written forms of which one has the words as its spoken form, if there is any.
func guesses(words []string) []string {
	n, nth := guess(words), strconv.Itoa(guessOrdinal(words))
	list := []string{fmt.Sprint(n), fmt.Sprint(-n), nth + suffix(nth), guessDigits(words[min(1, len(words)):])}
	if i := slices.Index(words, "point"); i >= 0 {
		whole, places := strconv.Itoa(guess(words[:i])), guessDigits(words[i+1:])
		list = append(list, whole+"."+places, "-"+whole+"."+places)
	}
	for i := range words {
		list = append(list, fmt.Sprintf("%02d:%02d", guess(words[:i]), guess(words[i:])))
	}
	if i := slices.Index(words, "of"); i >= 0 && i+2 <= len(words) {
		day, month, year := guessOrdinal(words[:i]), 1+slices.Index(calendar, words[i+1]), words[i+2:]
		list = append(list, fmt.Sprintf("%04d-%02d-%02d", guess(year), month, day))
		for k := range year {
			list = append(list, fmt.Sprintf("%02d%02d-%02d-%02d", guess(year[:k]), guess(year[k:])%100, month, day))
		}
	}
	for i, word := range words {
		if word == "dollar" || word == "dollars" {
			list = append(list, fmt.Sprintf("$%d.%02d", guess(words[:i]), guess(words[i:])), fmt.Sprintf("$%d", guess(words[:i])))
		}
	}
	return append(list, fmt.Sprintf("$0.%02d", n))
}

// writtenForm returns the written form of words, or an empty string.
func writtenForm(words []string) string {
	spoken := strings.Join(words, " ")
	for _, written := range guesses(words) {
		if _, s := oneForm(written); s != "" && s == spoken {
			return written
		}
	}
	return ""
}

// textByDefinition writes a spoken text.
func textByDefinition(spoken string) string {
	words := strings.Fields(spoken)
	var parts []string
	for at := 0; at < len(words); {
		part, next := words[at], at+1
		for end := len(words); end > at; end-- {
			if written := writtenForm(words[at:end]); written != "" {
				part, next = written, end
				break
			}
		}
		parts, at = append(parts, part), next
	}
	return strings.Join(parts, " ")
}

// vocabulary returns all words of spoken forms.
func vocabulary() map[string]bool {
	all := map[string]bool{}
	add := func(written string) {
		_, spoken := oneForm(written)
		for _, word := range strings.Fields(spoken) {
			all[word] = true
		}
	}
	for n := range 130 {
		add(strconv.Itoa(n))
		add(strconv.Itoa(n) + suffix(strconv.Itoa(n)))
	}
	for _, written := range []string{"-1", "1000", "1000000", "1000000000", "1000th", "1000000th", "1000000000th", "00", "0.0", "00:00", "00:01", "$1", "$2", "$0.01", "$0.02"} {
		add(written)
	}
	for month := range 12 {
		add(fmt.Sprintf("1999-%02d-01", month+1))
	}
	return all
}

// readingsByDefinition returns all readings of a spoken text in order; all is the vocabulary.
func readingsByDefinition(spoken string, all map[string]bool) []string {
	var list [][]string
	var read func(words, parts []string)
	read = func(words, parts []string) {
		if len(words) == 0 {
			list = append(list, slices.Clone(parts))
			return
		}
		if !all[words[0]] {
			read(words[1:], append(parts, words[0]))
		}
		for end := 1; end <= len(words); end++ {
			if written := writtenForm(words[:end]); written != "" {
				read(words[end:], append(parts, written))
			}
		}
	}
	read(strings.Fields(spoken), nil)
	slices.SortFunc(list, func(a, b []string) int {
		if len(a) != len(b) {
			return len(a) - len(b)
		}
		return strings.Compare(strings.Join(a, " "), strings.Join(b, " "))
	})
	var readings []string
	for _, parts := range list {
		readings = append(readings, strings.Join(parts, " "))
	}
	return readings
}
