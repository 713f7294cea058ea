package lattice

import (
	"iter"
	"slices"

	"earshot/api"
	"earshot/frac"
	"earshot/numbers"
	"earshot/speech"
	"earshot/whole"
)

// useful yields the numbers of the arcs that lie on a path, in order.
func useful(l api.Lattice) iter.Seq[int] {
	return func(yield func(int) bool) {
		reached, leads := make([]bool, l.Frames+1), make([]bool, l.Frames+1)
		reached[0], leads[l.Frames] = true, true
		for _, a := range l.Arcs {
			reached[a.To] = reached[a.To] || reached[a.From]
		}
		for _, a := range slices.Backward(l.Arcs) {
			leads[a.From] = leads[a.From] || leads[a.To]
		}
		for i, a := range l.Arcs {
			if reached[a.From] && leads[a.To] && !yield(i) {
				return
			}
		}
	}
}

// Trim returns the lattice without the arcs that lie on no path.
func Trim(l api.Lattice) (api.Lattice, api.Errno) {
	if e := Check(l); e != api.OK {
		return api.Lattice{}, e
	}
	return pick(l, useful(l)), api.OK
}

// pick returns the lattice with some of its arcs, in new memory.
func pick(l api.Lattice, arcs iter.Seq[int]) api.Lattice {
	picked := api.Lattice{Frames: l.Frames}
	for i := range arcs {
		a := l.Arcs[i]
		a.Weight = frac.Canon(a.Weight)
		picked.Arcs = append(picked.Arcs, a)
	}
	return picked
}

// Count returns the number of paths.
func Count(l api.Lattice) (api.Frac, api.Errno) {
	if e := Check(l); e != api.OK {
		return api.Frac{}, e
	}
	// Arcs to a frame come before those from it.
	counts := make([]api.Frac, l.Frames+1)
	counts[0] = frac.Of(1)
	for _, a := range l.Arcs {
		counts[a.To] = frac.Add(counts[a.To], counts[a.From])
	}
	return counts[l.Frames], api.OK
}

// Weight returns the weight of a path; ErrArg also if the list is no path.
func Weight(l api.Lattice, m api.Language, path []int) (api.Frac, api.Errno) {
	if e := checkPath(l, m, path); e != api.OK {
		return api.Frac{}, e
	}
	return weigh(l, m, path), api.OK
}

// weigh returns the weight of a path.
func weigh(l api.Lattice, m api.Language, path []int) api.Frac {
	weights := speech.Weights(m, wordsOf(l, path))
	for _, i := range path {
		weights = append(weights, l.Arcs[i].Weight)
	}
	return numbers.ProductOf(weights)
}

// wordsOf returns the words of a path.
func wordsOf(l api.Lattice, path []int) []int {
	var words []int
	for _, i := range path {
		words = append(words, l.Arcs[i].Word)
	}
	return words
}

// checkPath returns the error of a lattice, of a language model for it, and of a path.
func checkPath(l api.Lattice, m api.Language, path []int) api.Errno {
	if e := check(l, m); e != api.OK {
		return e
	}
	if !isPath(l, path) {
		return api.ErrArg
	}
	return api.OK
}

// isPath reports whether a list of numbers is a path of a lattice.
func isPath(l api.Lattice, list []int) bool {
	at := 0
	for _, i := range list {
		if !whole.Within(i, 0, len(l.Arcs)-1) || l.Arcs[i].From != at {
			return false
		}
		at = l.Arcs[i].To
	}
	return at == l.Frames
}
