package decode

import (
	"iter"
	"slices"

	"earshot/api"
	"earshot/frac"
	"earshot/gram"
	"earshot/lists"
	"earshot/numbers"
)

// mostWeights is how many weights of words are remembered.
const mostWeights = 1 << 20

// network is a task in which ways on are looked up. It shares no memory with the task.
type network struct {
	words    [][]variant
	symbols  int
	language api.Language
	rows     map[history][]*numbers.Factor // the weights of all words after some histories, as they were computed
}

// variant is a way to pronounce a word.
type variant struct {
	weight *numbers.Factor
	phones []*phone
}

// phone is a model. Weights that are 0 are nil, because they lead nowhere.
type phone struct {
	start []*numbers.Factor
	move  [][]*numbers.Factor
	end   []*numbers.Factor
	say   [][]*numbers.Factor
}

// build returns the network of a valid task.
func build(t api.Task) *network {
	phones := lists.Map(t.Phones, func(m api.Model) *phone {
		return &phone{factors(m.Start), lists.Map(m.Move, factors), factors(m.End), lists.Map(m.Say, factors)}
	})
	words := lists.Map(t.Words, func(word []api.Variant) []variant {
		return lists.Map(word, func(v api.Variant) variant {
			return variant{factor(v.Weight), lists.Map(v.Phones, func(n int) *phone { return phones[n-1] })}
		})
	})
	return &network{words, symbols(t), copyLanguage(t.Language), map[history][]*numbers.Factor{}}
}

func factors(row []api.Frac) []*numbers.Factor { return lists.Map(row, factor) }

// factor returns a weight as a factor, in new memory, or nil if it is 0.
func factor(a api.Frac) *numbers.Factor {
	if frac.Sign(a) == 0 {
		return nil
	}
	return numbers.FactorOf(frac.Canon(a))
}

func copyLanguage(l api.Language) api.Language {
	l.Table.List = lists.Map(l.Table.List, func(g api.Gram) api.Gram { return api.Gram{Words: slices.Clone(g.Words), N: g.N} })
	l.Amount, l.Mix = frac.Canon(l.Amount), lists.Map(l.Mix, frac.Canon)
	return l
}

// row returns the weights of the mark and of all words after a history.
func (n *network) row(h history) []*numbers.Factor {
	if row, ok := n.rows[h]; ok {
		return row
	}
	weights, _ := gram.Row(n.language, n.list(h))
	if (len(n.rows)+1)*len(weights) > mostWeights {
		clear(n.rows)
	}
	n.rows[h] = factors(weights)
	return n.rows[h]
}

// mark returns the weight of the mark behind the last word, nil at a door within a word.
func (n *network) mark(g door) *numbers.Factor {
	if g.word > 0 {
		return nil
	}
	if row, ok := n.rows[g.history]; ok {
		return row[0]
	}
	weight, _ := gram.Weight(n.language, n.list(g.history), 0)
	return factor(weight)
}

// list returns the numbers of a history.
func (n *network) list(h history) []int { return slices.Clone(h[:n.language.Table.Order-1]) }

// next returns the history after a word follows a history.
func (n *network) next(h history, word int) history {
	if last := n.language.Table.Order - 2; last >= 0 {
		copy(h[:last], h[1:])
		h[last] = word
	}
	return h
}

// phones returns the phones of the variant that is being said at a place.
func (n *network) phones(p place) []*phone { return n.words[p.word-1][p.variant].phones }

// exit returns the door after a phone that ends at a place, and the weight with which it ends there, nil if it cannot.
func (n *network) exit(p place) (door, *numbers.Factor) {
	phones := n.phones(p)
	end := phones[p.phone].end[p.state]
	if p.phone == len(phones)-1 {
		return door{history: p.history}, end
	}
	return door{p.history, p.word, p.variant, p.phone + 1}, end
}

// within yields the ways on from a place that stay in its phone and say a symbol: the places to which they lead, and the factors of their weights, none of which is 0. The lists of factors share their memory.
func (n *network) within(p place, symbol int) iter.Seq2[place, []*numbers.Factor] {
	return func(yield func(place, []*numbers.Factor) bool) {
		phone := n.phones(p)[p.phone]
		steps := make([]*numbers.Factor, 2)
		for state, move := range phone.move[p.state] {
			to := p
			to.state = state
			steps[0], steps[1] = move, phone.say[state][symbol]
			if arePositive(steps) && !yield(to, steps) {
				return
			}
		}
	}
}

// through yields the ways through a door, as within does.
func (n *network) through(g door, symbol int) iter.Seq2[place, []*numbers.Factor] {
	return func(yield func(place, []*numbers.Factor) bool) {
		for to, steps := range n.behind(g) {
			phone := n.phones(to)[to.phone]
			for state, start := range phone.start {
				to.state = state
				all := append(steps, start, phone.say[state][symbol])
				if arePositive(all) && !yield(to, all) {
					return
				}
			}
		}
	}
}

// behind yields the phones behind a door: their places without states, and the weights of a new word and of its variant.
func (n *network) behind(g door) iter.Seq2[place, []*numbers.Factor] {
	return func(yield func(place, []*numbers.Factor) bool) {
		steps := make([]*numbers.Factor, 0, 4)
		if g.word > 0 {
			yield(place{g.history, g.word, g.variant, g.phone, 0}, steps)
			return
		}
		row := n.row(g.history)
		for i, word := range n.words {
			for k, v := range word {
				to := place{history: n.next(g.history, i+1), word: i + 1, variant: k}
				if !yield(to, append(steps, row[i+1], v.weight)) {
					return
				}
			}
		}
	}
}

// arePositive reports whether no weight is 0.
func arePositive(steps []*numbers.Factor) bool { return !slices.Contains(steps, nil) }
