package gram

import (
	"maps"
	"slices"

	"earshot/api"
	"earshot/checks"
	"earshot/whole"
)

// CheckTable returns the error of a table: ErrLong if it has too many n-grams, ErrArg if it is not valid.
func CheckTable(t api.Table) api.Errno {
	if len(t.List) > api.MaxGrams {
		return api.ErrLong
	}
	return checks.Argument(isShape(t.Order, t.Words) && areGrams(t))
}

// isShape reports whether there are tables of an order for so many words.
func isShape(order, words int) bool {
	return whole.Within(order, 1, api.MaxOrder) && whole.Within(words, 1, api.MaxWords)
}

// areGrams reports whether the list of a table is as defined, for its order and its words.
func areGrams(t api.Table) bool {
	for i, g := range t.List {
		if len(g.Words) != t.Order || !whole.AllWithin(g.Words, 0, t.Words) || !whole.Within(g.N, 1, mostSeen) {
			return false
		}
		if i > 0 && slices.Compare(t.List[i-1].Words, g.Words) >= 0 {
			return false
		}
	}
	return true
}

// Count returns the table of the n-grams of sentences.
func Count(order, words int, sentences ...[]int) (api.Table, api.Errno) {
	e := checks.Argument(isShape(order, words))
	for _, s := range sentences {
		e = checks.First(e, checkSentence(s, words))
	}
	if e != api.OK {
		return api.Table{}, e
	}
	seen := tally{}
	for _, s := range sentences {
		for gram := range grams(order, s) {
			seen[keyOf(gram)]++
		}
		if len(seen) > api.MaxGrams {
			break // what follows would only need memory
		}
	}
	return seen.table(order, words)
}

// tally says how often n-grams of one order were seen.
type tally map[key]int

// table returns the table of a tally; ErrLong if there are too many n-grams, ErrArg if one was seen too often.
func (seen tally) table(order, words int) (api.Table, api.Errno) {
	if len(seen) > api.MaxGrams {
		return api.Table{}, api.ErrLong
	}
	t := api.Table{Order: order, Words: words}
	for _, k := range slices.SortedFunc(maps.Keys(seen), func(a, b key) int { return slices.Compare(a[:], b[:]) }) {
		if seen[k] > mostSeen {
			return api.Table{}, api.ErrArg
		}
		t.List = append(t.List, api.Gram{Words: slices.Clone(k[:order]), N: seen[k]})
	}
	return t, api.OK
}

// Merge returns the table in which the N of equal n-grams of two tables are added; ErrArg if they have different orders or numbers of words, or if a sum is too great.
func Merge(a, b api.Table) (api.Table, api.Errno) {
	e := checks.First(CheckTable(a), CheckTable(b), checks.Argument(a.Order == b.Order && a.Words == b.Words))
	if e != api.OK {
		return api.Table{}, e
	}
	seen := tally{}
	for _, g := range slices.Concat(a.List, b.List) {
		seen[keyOf(g.Words)] += g.N
	}
	return seen.table(a.Order, a.Words)
}

// Lower returns the lower table; ErrArg if the order is 1, or if a sum is too great.
func Lower(t api.Table) (api.Table, api.Errno) {
	if e := checks.First(CheckTable(t), checks.Argument(t.Order > 1)); e != api.OK {
		return api.Table{}, e
	}
	seen := tally{}
	for _, g := range t.List {
		seen[keyOf(g.Words[1:])] += g.N
	}
	return seen.table(t.Order-1, t.Words)
}

// Drop returns the table without the n-grams that were seen less than least times.
func Drop(t api.Table, least int) (api.Table, api.Errno) {
	if e := CheckTable(t); e != api.OK {
		return api.Table{}, e
	}
	kept := api.Table{Order: t.Order, Words: t.Words}
	for _, g := range t.List {
		if g.N >= least {
			kept.List = append(kept.List, api.Gram{Words: slices.Clone(g.Words), N: g.N})
		}
	}
	return kept, api.OK
}
