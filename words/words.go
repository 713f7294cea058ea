// Package words has the checks of words that are strings, which several layers share.
package words

import "earshot/whole"

// mostBytes is how many bytes a word has at most.
const mostBytes = 40

// Valid reports whether a string is a word.
func Valid(s string) bool {
	if !whole.Within(len(s), 1, mostBytes) {
		return false
	}
	for i := range len(s) {
		if !whole.Within(int(s[i]), '!', '~') {
			return false
		}
	}
	return true
}

// Names reports whether all strings are words, and different.
func Names(list []string) bool {
	seen := map[string]bool{}
	for _, s := range list {
		if !Valid(s) || seen[s] {
			return false
		}
		seen[s] = true
	}
	return true
}
