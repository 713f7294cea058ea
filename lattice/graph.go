package lattice

import (
	"maps"
	"slices"

	"earshot/api"
	"earshot/frac"
	"earshot/lists"
	"earshot/numbers"
)

// spot is where a path is before a frame, when the word that begins there is chosen, or before that. It has all that matters for the ways on.
type spot struct {
	frame   int
	word    int     // 0 if none is chosen
	history history // with the word that is chosen
	heard   int     // how many words of a term were heard; 0 if there is no term
}

// step leads from a spot to another one: it chooses a word, or goes along an arc. Spots are numbered from 0, which is the one where all paths begin.
type step struct {
	from   int
	to     int
	arc    int             // noArc if a word is chosen
	weight *numbers.Factor // of the word after the history, or of the arc
}

const noArc = -1

// graph has all paths through a lattice, as lists of steps.
type graph struct {
	arcs   []api.Arc
	into   [][]int           // for each frame, and for the end, the arcs before it that lie on paths
	frames [][]int           // for each frame, and for the end, the spots before it where no word is chosen
	spots  []spot            // by their numbers
	marks  []*numbers.Factor // for each spot at the end, the weight of the mark; nil for the others
	steps  []step            // the steps to a spot come before those from it
	rows   [][2]int          // for each spot, the index of the first step from it, and of the first one behind these steps
}

// builder builds a graph.
type builder struct {
	graph
	weights   []*numbers.Factor // of the arcs
	leaving   []map[int][]int   // for each frame, the arcs from it that lie on paths, by their words
	predictor *predictor
	hear      func(heard, word int) int
	known     map[spot]int
}

// build returns the graph of a lattice and a language model that are valid. hear says how many words of a term are heard after one more word.
func build(l api.Lattice, m api.Language, hear func(heard, word int) int) graph {
	b := builder{
		graph:   graph{arcs: l.Arcs, into: make([][]int, l.Frames+1), frames: make([][]int, l.Frames+1)},
		weights: lists.Map(l.Arcs, func(a api.Arc) *numbers.Factor { return numbers.FactorOf(frac.Canon(a.Weight)) }),
		leaving: make([]map[int][]int, l.Frames+1),
		hear:    hear,
		known:   map[spot]int{},
	}
	words := b.sort(l)
	b.predictor = predict(m, words)
	b.enter(&b.frames[0], spot{})
	for t := range b.frames {
		for _, i := range b.choose(t) {
			b.leave(i)
		}
	}
	return b.graph
}

// noTerm is what is heard of no term.
func noTerm(int, int) int { return 0 }

// sort sorts the arcs that lie on paths by their bounds, and returns their words.
func (b *builder) sort(l api.Lattice) map[int]bool {
	words := map[int]bool{}
	for t := range b.leaving {
		b.leaving[t] = map[int][]int{}
	}
	for i := range useful(l) {
		a := l.Arcs[i]
		b.into[a.To] = append(b.into[a.To], i)
		b.leaving[a.From][a.Word] = append(b.leaving[a.From][a.Word], i)
		words[a.Word] = true
	}
	return words
}

// enter returns the number of a spot. If it is new, it also adds it to a list.
func (b *builder) enter(list *[]int, s spot) int {
	if i, ok := b.known[s]; ok {
		return i
	}
	i := len(b.spots)
	b.known[s], *list = i, append(*list, i)
	b.spots, b.marks, b.rows = append(b.spots, s), append(b.marks, nil), append(b.rows, [2]int{})
	return i
}

// choose adds the steps that choose a word before a frame, or the marks at the end. It returns the spots to which they lead.
func (b *builder) choose(t int) []int {
	var chosen []int
	words := slices.Sorted(maps.Keys(b.leaving[t]))
	for _, i := range b.frames[t] {
		s := b.spots[i]
		weights := b.predictor.row(s.history)
		if t == len(b.frames)-1 {
			b.marks[i] = weights[0]
		}
		first := len(b.steps)
		for _, w := range words {
			to := b.enter(&chosen, spot{t, w, b.predictor.next(s.history, w), b.hear(s.heard, w)})
			b.steps = append(b.steps, step{i, to, noArc, weights[w]})
		}
		b.rows[i] = [2]int{first, len(b.steps)}
	}
	return chosen
}

// leave adds the steps along the arcs with the word that is chosen at a spot.
func (b *builder) leave(i int) {
	s := b.spots[i]
	first := len(b.steps)
	for _, k := range b.leaving[s.frame][s.word] {
		end := b.arcs[k].To
		to := b.enter(&b.frames[end], spot{frame: end, history: s.history, heard: s.heard})
		b.steps = append(b.steps, step{i, to, k, b.weights[k]})
	}
	b.rows[i] = [2]int{first, len(b.steps)}
}

// last returns the spots at the end. There are none if there is no path.
func (g graph) last() []int { return g.frames[len(g.frames)-1] }

// row returns the steps from a spot.
func (g graph) row(i int) []step { return cut(g.steps, g.rows[i]) }

// cut returns a row of a list, to which nothing can be added.
func cut[T any](list []T, row [2]int) []T { return list[row[0]:row[1]:row[1]] }
