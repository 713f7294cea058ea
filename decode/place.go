package decode

import (
	"cmp"
	"maps"
	"slices"

	"earshot/api"
)

// history has the last words before the next one, as an array, so that it can be in the key of a map. What is behind the end of a shorter history is 0.
type history [api.MaxOrder - 1]int

// place is all that matters for the ways on from a point.
type place struct {
	history history
	word    int
	variant int
	phone   int
	state   int
}

// door is where a phone can begin: a phone of a variant that is being said, or the first phone of any word, if there is no word.
type door struct {
	history history
	word    int
	variant int
	phone   int
}

// point returns the point at a place.
func (p place) point(begins bool) api.Point {
	return api.Point{New: begins, Word: p.word, Variant: p.variant, Phone: p.phone, State: p.state}
}

func comparePlaces(p, q place) int {
	return cmp.Or(
		slices.Compare(p.history[:], q.history[:]),
		cmp.Compare(p.word, q.word),
		cmp.Compare(p.variant, q.variant),
		cmp.Compare(p.phone, q.phone),
		cmp.Compare(p.state, q.state))
}

// keys returns the keys of a map in order.
func keys[K comparable, V any](m map[K]V, compare func(a, b K) int) []K {
	return slices.SortedFunc(maps.Keys(m), compare)
}
