package written

import (
	"cmp"
	"slices"
	"strings"

	"earshot/api"
)

// mostWords is how many words a spoken form has at most: minus, 23 for a cardinal, point and 12 digits.
const mostWords = 37

// isWord reports whether a string is a word.
func isWord(text string) bool {
	for _, r := range text {
		if r < 'a' || r > 'z' {
			return false
		}
	}
	return text != ""
}

// wordsOf returns the words of a spoken text; ErrLong or ErrText if it is none.
func wordsOf(spoken string) ([]string, api.Errno) {
	if e := length(spoken); e != api.OK {
		return nil, e
	}
	if spoken == "" {
		return nil, api.OK
	}
	words := strings.Split(spoken, " ")
	for _, word := range words {
		if !isWord(word) {
			return nil, api.ErrText
		}
	}
	return words, api.OK
}

// WriteText writes a spoken text.
func WriteText(spoken string) (string, api.Errno) {
	words, e := wordsOf(spoken)
	if e != api.OK {
		return "", e
	}
	var parts []string
	for len(words) > 0 {
		part, taken := longest(words)
		parts = append(parts, part)
		words = words[taken:]
	}
	return strings.Join(parts, " "), api.OK
}

// longest returns the written form of the longest list of words from the front that is a spoken form, or else the first word, and the number of words.
func longest(words []string) (string, int) {
	part, taken := words[0], 1
search:
	for end := min(len(words), mostWords); end > 0; end-- {
		for _, f := range forms() {
			if written := writeAs(f, words[:end]); written != "" {
				part, taken = written, end
				break search
			}
		}
	}
	return part, taken
}

// SpeakText speaks a written text.
func SpeakText(written string) (string, api.Errno) {
	if e := length(written); e != api.OK {
		return "", e
	}
	if written == "" {
		return "", api.OK
	}
	var spoken []string
	for _, part := range strings.Split(written, " ") {
		words, _ := speak(part)
		if isWord(part) {
			words = []string{part}
		}
		if len(words) == 0 {
			return "", api.ErrText
		}
		spoken = append(spoken, words...)
	}
	return strings.Join(spoken, " "), api.OK
}

// step is a way to write some words: a part of a reading, and where the next one begins.
type step struct {
	part string
	next int
}

// stepsFrom returns all ways to write words from at on as one part.
func stepsFrom(words []string, at int) []step {
	if !occurs(words[at]) {
		return []step{{words[at], at + 1}}
	}
	var steps []step
	for end := at + 1; end <= min(len(words), at+mostWords); end++ {
		if written := write(words[at:end]); written != "" {
			steps = append(steps, step{written, end})
		}
	}
	return steps
}

// Readings returns all ways to write a spoken text.
func Readings(spoken string) ([]string, api.Errno) {
	words, e := wordsOf(spoken)
	if e != api.OK {
		return nil, e
	}
	steps := make([][]step, len(words))
	// How many ways there are to write the rest of the text, or one more than may be.
	ways := make([]int, len(words)+1)
	ways[len(words)] = 1
	for at := len(words) - 1; at >= 0; at-- {
		steps[at] = stepsFrom(words, at)
		for _, s := range steps[at] {
			ways[at] = min(ways[at]+ways[s.next], api.MaxReadings+1)
		}
	}
	if ways[0] > api.MaxReadings {
		return nil, api.ErrLong
	}
	return collect(steps, ways), api.OK
}

// collect returns the readings with these steps in order; it goes only where the rest of the text can be written.
func collect(steps [][]step, ways []int) []string {
	var readings []string
	var read func(at int, parts []string)
	read = func(at int, parts []string) {
		if at == len(steps) {
			readings = append(readings, strings.Join(parts, " "))
			return
		}
		for _, s := range steps[at] {
			if ways[s.next] > 0 {
				read(s.next, append(parts, s.part))
			}
		}
	}
	read(0, nil)
	slices.SortFunc(readings, func(a, b string) int {
		return cmp.Or(cmp.Compare(strings.Count(a, " "), strings.Count(b, " ")), strings.Compare(a, b))
	})
	return readings
}
