// The definitions of the chapter, without any thought of how long they take.

package sound_test

import (
	"cmp"
	"maps"
	"math/big"
	"slices"
	"strings"
	"testing"

	"earshot/api"
)

// weights are the weights of printed lists.
type weights map[string]*big.Rat

func (w weights) add(what string, weight *big.Rat) {
	if w[what] == nil {
		w[what] = new(big.Rat)
	}
	w[what].Add(w[what], weight)
}

// fits reports whether a rule matches a list at an index.
func fits(x api.Rewrite, phones []int, i int) bool {
	end := i + len(x.From)
	if end > len(phones) || !slices.Equal(phones[i:end], x.From) {
		return false
	}
	before, behind := 0, 0
	if i > 0 {
		before = phones[i-1]
	}
	if end < len(phones) {
		behind = phones[end]
	}
	return (len(x.Left) == 0 || slices.Contains(x.Left, before)) && (len(x.Right) == 0 || slices.Contains(x.Right, behind))
}

// ways calls found with what each way to apply rules writes, and with its weight.
func ways(rules []api.Rewrite, phones []int, i int, written []int, weight *big.Rat, found func(written []int, weight *big.Rat)) {
	if weight.Sign() == 0 {
		return
	}
	if i == len(phones) {
		found(written, weight)
		return
	}
	rest := weight
	if n := slices.IndexFunc(rules, func(x api.Rewrite) bool { return fits(x, phones, i) }); n >= 0 {
		x := rules[n]
		applied := new(big.Rat).Mul(weight, valueOf(x.Weight))
		rest = new(big.Rat).Sub(weight, applied)
		ways(rules, phones, i+len(x.From), slices.Concat(written, x.To), applied, found)
	}
	ways(rules, phones, i+1, append(slices.Clone(written), phones[i]), rest, found)
}

// choices calls found with the phones of each choice of entries for words, and with its weight.
func choices(l api.Lexicon, words []string, phones []int, weight *big.Rat, found func(phones []int, weight *big.Rat)) {
	if len(words) == 0 {
		found(phones, weight)
		return
	}
	for _, x := range l.Entries {
		if x.Word == words[0] {
			choices(l, words[1:], slices.Concat(phones, x.Phones), new(big.Rat).Mul(weight, valueOf(x.Weight)), found)
		}
	}
}

// resultsOf returns the results of applying rules to a list of phones.
func resultsOf(rules []api.Rewrite, phones []int) map[string]*big.Rat {
	list := weights{}
	ways(rules, phones, 0, nil, big.NewRat(1, 1), func(written []int, weight *big.Rat) { list.add(spelled(written), weight) })
	return list
}

// pronunciationsOf returns the pronunciations of words.
func pronunciationsOf(l api.Lexicon, rules []api.Rewrite, words []string) map[string]*big.Rat {
	list := weights{}
	choices(l, words, nil, big.NewRat(1, 1), func(phones []int, chosen *big.Rat) {
		ways(rules, phones, 0, nil, chosen, func(written []int, weight *big.Rat) { list.add(spelled(written), weight) })
	})
	return list
}

// readingsOf returns the readings of a list of phones with at most so many words, by the words with blanks between them.
func readingsOf(l api.Lexicon, rules []api.Rewrite, phones []int, most int) map[string]*big.Rat {
	list := map[string]*big.Rat{}
	for _, words := range listsOf(wordsOf(l), most) {
		if weight := pronunciationsOf(l, rules, words)[spelled(phones)]; weight != nil {
			list[strings.Join(words, " ")] = weight
		}
	}
	return list
}

// wordsOf returns the words of a lexicon.
func wordsOf(l api.Lexicon) []string {
	words := map[string]bool{}
	for _, x := range l.Entries {
		words[x.Word] = true
	}
	return slices.Sorted(maps.Keys(words))
}

// listsOf returns all lists of at most so many words.
func listsOf(words []string, most int) [][]string {
	lists := [][]string{nil}
	for last := lists; most > 0; most-- {
		var longer [][]string
		for _, list := range last {
			for _, word := range words {
				longer = append(longer, append(slices.Clone(list), word))
			}
		}
		lists, last = append(lists, longer...), longer
	}
	return lists
}

// expectForms checks that forms are those of a definition, that they are in order, and that their weights are canonical.
func expectForms(t *testing.T, what string, got []api.Form, e api.Errno, want map[string]*big.Rat) {
	t.Helper()
	if e != api.OK || len(got) != len(want) {
		t.Fatalf("%s: %s and error %d, not %v", what, showForms(got), e, want)
	}
	for _, x := range got {
		if weight := want[spelled(x.Phones)]; weight == nil || weight.Cmp(valueOf(x.Weight)) != 0 || !isCanonical(x.Weight) {
			t.Fatalf("%s: %s, not %v", what, showForms(got), want)
		}
	}
	expectOrder(t, what, got)
}

// expectOrder checks that forms are different, and in the order of pronunciations.
func expectOrder(t *testing.T, what string, forms []api.Form) {
	t.Helper()
	for i := range len(forms) - 1 {
		a, b := forms[i], forms[i+1]
		if cmp.Or(valueOf(b.Weight).Cmp(valueOf(a.Weight)), slices.Compare(a.Phones, b.Phones)) >= 0 {
			t.Fatalf("%s: %s are not in order", what, showForms(forms))
		}
	}
}
