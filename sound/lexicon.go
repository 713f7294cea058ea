package sound

import (
	"cmp"
	"iter"
	"slices"

	"earshot/api"
	"earshot/frac"
	"earshot/lists"
	"earshot/words"
)

// Valid reports whether a lexicon is valid.
func Valid(l api.Lexicon) bool {
	if !areEntries(l.Entries) || !increasing(l.Entries, compareEntries) {
		return false
	}
	for entries := range runs(l.Entries, sameWord) {
		if !frac.Distribution(weightsOf(entries)) {
			return false
		}
	}
	return true
}

// areEntries reports whether entries can make a lexicon, apart from their order and from the sums of their weights.
func areEntries(entries []api.Entry) bool {
	return len(entries) <= api.MaxEntries && !slices.ContainsFunc(entries, func(x api.Entry) bool {
		return !words.Valid(x.Word) || !arePhones(x.Phones, mostSpelled) || frac.Sign(x.Weight) <= 0
	})
}

func compareEntries(a, b api.Entry) int {
	return cmp.Or(cmp.Compare(a.Word, b.Word), slices.Compare(a.Phones, b.Phones))
}

func sameWord(a, b api.Entry) bool { return a.Word == b.Word }

func samePhones(a, b api.Entry) bool { return slices.Equal(a.Phones, b.Phones) }

func sameEntry(a, b api.Entry) bool { return compareEntries(a, b) == 0 }

// runs yields the longest pieces of a list whose elements are the same. They share the memory of the list.
func runs[T any](list []T, same func(a, b T) bool) iter.Seq[[]T] {
	return func(yield func(run []T) bool) {
		from := 0
		for i := range list {
			if i+1 < len(list) && same(list[i], list[i+1]) {
				continue
			}
			if !yield(list[from : i+1]) {
				return
			}
			from = i + 1
		}
	}
}

func weightsOf(entries []api.Entry) []api.Frac {
	return lists.Map(entries, func(x api.Entry) api.Frac { return x.Weight })
}

// Make returns the lexicon with some entries, in any order; ErrArg if there are too many, or if one is not as defined, except that weights may be greater than 1.
func Make(entries []api.Entry) (api.Lexicon, api.Errno) {
	if !areEntries(entries) {
		return api.Lexicon{}, api.ErrArg
	}
	sorted := slices.Clone(entries)
	slices.SortFunc(sorted, compareEntries)
	var l api.Lexicon
	for same := range runs(sorted, sameEntry) {
		together := api.Entry{Word: same[0].Word, Phones: slices.Clone(same[0].Phones), Weight: frac.Sum(weightsOf(same)...)}
		l.Entries = append(l.Entries, together)
	}
	for variants := range runs(l.Entries, sameWord) {
		// The weights are positive, so their sum is not 0.
		parts, _ := frac.Normalize(weightsOf(variants))
		for i, part := range parts {
			variants[i].Weight = part
		}
	}
	return l, api.OK
}

// Words returns the words of a lexicon, in increasing order.
func Words(l api.Lexicon) ([]string, api.Errno) {
	if !Valid(l) {
		return nil, api.ErrArg
	}
	var words []string
	for entries := range runs(l.Entries, sameWord) {
		words = append(words, entries[0].Word)
	}
	return words, api.OK
}

// Variants returns the phones and weights of the entries of a word, in the order of pronunciations; ErrNone if there are none.
func Variants(l api.Lexicon, word string) ([]api.Form, api.Errno) {
	if !Valid(l) {
		return nil, api.ErrArg
	}
	entries := entriesOf(l, word)
	if len(entries) == 0 {
		return nil, api.ErrNone
	}
	forms := lists.Map(entries, func(x api.Entry) api.Form {
		return api.Form{Phones: slices.Clone(x.Phones), Weight: frac.Canon(x.Weight)}
	})
	rankForms(forms)
	return forms, api.OK
}

// entriesOf returns the entries of a word of a valid lexicon, which share its memory.
func entriesOf(l api.Lexicon, word string) []api.Entry {
	for entries := range runs(l.Entries, sameWord) {
		if entries[0].Word == word {
			return entries
		}
	}
	return nil
}

// Homophones returns, for each list of phones that several words share, in the order of such lists, these words in increasing order.
func Homophones(l api.Lexicon) ([][]string, api.Errno) {
	if !Valid(l) {
		return nil, api.ErrArg
	}
	sorted := slices.Clone(l.Entries)
	slices.SortStableFunc(sorted, func(a, b api.Entry) int { return slices.Compare(a.Phones, b.Phones) })
	var sets [][]string
	for entries := range runs(sorted, samePhones) {
		if len(entries) > 1 {
			sets = append(sets, lists.Map(entries, func(x api.Entry) string { return x.Word }))
		}
	}
	return sets, api.OK
}
