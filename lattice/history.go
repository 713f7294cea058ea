package lattice

import (
	"slices"

	"earshot/api"
	"earshot/gram"
	"earshot/numbers"
)

// history has the last words before the next one, as an array, so that it can be in the key of a map. What is behind the end of a shorter history is 0.
type history [api.MaxOrder - 1]int

// piece is a list of neighboring numbers of a history. The places behind its end are absent.
type piece [api.MaxOrder - 1]int

const absent = -1

func pieceOf(list []int) piece {
	var p piece
	for i := copy(p[:], list); i < len(p); i++ {
		p[i] = absent
	}
	return p
}

// predictor says what can follow histories. Most histories were never seen, and what follows them depends only on their end: histories that go on alike are replaced by one of them, because there would be very many others.
type predictor struct {
	language api.Language
	length   int // of histories
	words    map[int]bool
	seen     map[piece]bool    // the pieces of the histories that were counted
	alike    map[piece]history // for the end of a history that matters, the history that replaces all that have it
	rows     map[history][]*numbers.Factor
}

// predict returns a predictor for a valid language model that will be asked only for some words, and for the mark.
func predict(m api.Language, words map[int]bool) *predictor {
	x := &predictor{m, m.Table.Order - 1, words, map[piece]bool{}, map[piece]history{}, map[history][]*numbers.Factor{}}
	for _, g := range m.Table.List {
		for last := 1; last <= x.length; last++ {
			for first := range last {
				x.seen[pieceOf(g.Words[first:last])] = true
			}
		}
	}
	return x
}

// next returns the history after a word follows a history, or one that goes on alike.
func (x *predictor) next(h history, word int) history {
	list := slices.Concat(h[:x.length], []int{word})[1:]
	end := x.matters(list)
	if known, ok := x.alike[end]; ok {
		return known
	}
	var full history
	copy(full[:], list)
	x.alike[end] = full
	return full
}

// matters returns the end of a history on which all weights after it depend: the longest one that was seen. If a longer one begins with what was never seen, no count of it, or of what comes after it, is known.
func (x *predictor) matters(list []int) piece {
	for len(list) > 0 && !x.seen[pieceOf(list)] {
		list = list[1:]
	}
	return pieceOf(list)
}

// row returns the weights after a history: of the mark and of the words that are asked for, by their numbers.
func (x *predictor) row(h history) []*numbers.Factor {
	if row, ok := x.rows[h]; ok {
		return row
	}
	weights, _ := gram.Row(x.language, h[:x.length])
	row := make([]*numbers.Factor, len(weights))
	for w, weight := range weights {
		if w == 0 || x.words[w] {
			row[w] = numbers.FactorOf(weight)
		}
	}
	x.rows[h] = row
	return row
}
