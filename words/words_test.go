package words_test

import (
	"slices"
	"strings"
	"testing"

	"earshot/words"
)

func TestValid(t *testing.T) {
	for _, s := range []string{"a", "!", "~", "yes", "don't", "A-1", strings.Repeat("x", 40)} {
		if !words.Valid(s) {
			t.Errorf("%q is a word", s)
		}
	}
	for _, s := range []string{"", " ", "a b", "a\n", "\x7f", "\x00", "é", "\xff", " a", "a ", strings.Repeat("x", 41)} {
		if words.Valid(s) {
			t.Errorf("%q is no word", s)
		}
	}
	for b := range 256 {
		if words.Valid(string([]byte{'a', byte(b), 'a'})) != (33 <= b && b <= 126) {
			t.Errorf("the byte %d", b)
		}
	}
}

func TestNames(t *testing.T) {
	for _, list := range [][]string{nil, {}, {"a"}, {"a", "b", "aa", "A"}} {
		given := slices.Clone(list)
		if !words.Names(list) || !slices.Equal(list, given) {
			t.Errorf("%q are names", given)
		}
	}
	for _, list := range [][]string{{""}, {"a", ""}, {"a", "a"}, {"a", "b", "a"}, {"a b"}, {"a", "b", "c\t"}} {
		if words.Names(list) {
			t.Errorf("%q are no names", list)
		}
	}
}
