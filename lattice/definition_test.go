// What the chapter defines, computed as directly as possible.

package lattice_test

import (
	"math/big"
	"slices"
	"testing"

	"earshot/api"
	"earshot/gram"
	"earshot/model"
)

var one = big.NewRat(1, 1)

func plus(a, b *big.Rat) *big.Rat { return new(big.Rat).Add(a, b) }

func times(a, b *big.Rat) *big.Rat { return new(big.Rat).Mul(a, b) }

// pathsFrom returns all paths from a frame on, in lexicographic order.
func pathsFrom(l api.Lattice, from int) [][]int {
	if from == l.Frames {
		return [][]int{nil}
	}
	var list [][]int
	for i, a := range l.Arcs {
		if a.From == from {
			for _, rest := range pathsFrom(l, a.To) {
				list = append(list, append([]int{i}, rest...))
			}
		}
	}
	return list
}

// wordsOf returns the words of a path.
func wordsOf(l api.Lattice, path []int) []int {
	var words []int
	for _, i := range path {
		words = append(words, l.Arcs[i].Word)
	}
	return words
}

// weightOf returns the weight of a path.
func weightOf(t *testing.T, l api.Lattice, m api.Language, path []int) *big.Rat {
	t.Helper()
	sentence, e := gram.Sentence(m, wordsOf(l, path))
	if e != api.OK {
		t.Fatalf("Sentence: error %d", e)
	}
	w := valueOf(sentence)
	for _, i := range path {
		w.Mul(w, valueOf(l.Arcs[i].Weight))
	}
	return w
}

// paths are all paths of a lattice with a language model, in their order.
type paths struct {
	lattice api.Lattice
	list    [][]int
	weights []*big.Rat
	total   *big.Rat
}

func pathsOf(t *testing.T, l api.Lattice, m api.Language) paths {
	t.Helper()
	p := paths{lattice: l, list: pathsFrom(l, 0), total: new(big.Rat)}
	for _, path := range p.list {
		w := weightOf(t, l, m, path)
		p.weights, p.total = append(p.weights, w), plus(p.total, w)
	}
	order := make([]int, len(p.list))
	for i := range order {
		order[i] = i
	}
	slices.SortStableFunc(order, func(i, j int) int { return p.weights[j].Cmp(p.weights[i]) })
	sorted := paths{lattice: l, total: p.total}
	for _, i := range order {
		sorted.list, sorted.weights = append(sorted.list, p.list[i]), append(sorted.weights, p.weights[i])
	}
	return sorted
}

// part returns the part of some paths. There is at least one path.
func (p paths) part(of func(path []int) bool) *big.Rat {
	sum := new(big.Rat)
	for i, path := range p.list {
		if of(path) {
			sum.Add(sum, p.weights[i])
		}
	}
	return sum.Quo(sum, p.total)
}

// partOfArc returns the part of the paths on which an arc lies.
func (p paths) partOfArc(i int) *big.Rat {
	return p.part(func(path []int) bool { return slices.Contains(path, i) })
}

// wordAt returns the word with which a path explains a frame.
func (p paths) wordAt(path []int, t int) int {
	for _, i := range path {
		if a := p.lattice.Arcs[i]; a.From <= t && t < a.To {
			return a.Word
		}
	}
	return 0
}

// hasAt reports whether a path has a term from a frame to another one.
func (p paths) hasAt(path, term []int, from, to int) bool {
	words := wordsOf(p.lattice, path)
	for k := 0; k+len(term) <= len(path); k++ {
		first, last := p.lattice.Arcs[path[k]], p.lattice.Arcs[path[k+len(term)-1]]
		if slices.Equal(words[k:k+len(term)], term) && first.From == from && last.To == to {
			return true
		}
	}
	return false
}

// has reports whether a path has a term.
func (p paths) has(path, term []int) bool {
	for from := range p.lattice.Frames {
		for to := range p.lattice.Frames + 1 {
			if p.hasAt(path, term, from, to) {
				return true
			}
		}
	}
	return false
}

// wrong returns the expected wrong frames of a path.
func (p paths) wrong(path []int) *big.Rat {
	expected := new(big.Rat)
	for i, other := range p.list {
		frames := 0
		for t := range p.lattice.Frames {
			if p.wordAt(path, t) != p.wordAt(other, t) {
				frames++
			}
		}
		expected.Add(expected, times(p.weights[i], big.NewRat(int64(frames), 1)))
	}
	return expected.Quo(expected, p.total)
}

// pieceWeight returns the sum, over all ways to cut a piece of a recording into as many pieces as there are phones, of the product of the likelihoods of these pieces.
func pieceWeight(t *testing.T, x api.Task, phones, o []int) *big.Rat {
	t.Helper()
	if len(phones) == 0 {
		if len(o) == 0 {
			return one
		}
		return new(big.Rat)
	}
	sum := new(big.Rat)
	for n := 1; n <= len(o); n++ {
		likelihood, e := model.Likelihood(x.Phones[phones[0]-1], o[:n])
		if e != api.OK {
			t.Fatalf("Likelihood: error %d", e)
		}
		if w := valueOf(likelihood); w.Sign() > 0 {
			sum.Add(sum, w.Mul(w, pieceWeight(t, x, phones[1:], o[n:])))
		}
	}
	return sum
}

// madeOf returns the lattice of a task and a recording, with the weights of its arcs beside it.
func madeOf(t *testing.T, x api.Task, o []int) (api.Lattice, []*big.Rat) {
	t.Helper()
	l := api.Lattice{Frames: len(o)}
	var weights []*big.Rat
	for from := range o {
		for to := from + 1; to <= len(o); to++ {
			for i, word := range x.Words {
				for k, v := range word {
					w := times(valueOf(v.Weight), pieceWeight(t, x, v.Phones, o[from:to]))
					if w.Sign() > 0 {
						l.Arcs, weights = append(l.Arcs, api.Arc{From: from, To: to, Word: i + 1, Variant: k}), append(weights, w)
					}
				}
			}
		}
	}
	return l, weights
}
