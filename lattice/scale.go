package lattice

import (
	"earshot/api"
	"earshot/frac"
	"earshot/lists"
	"earshot/numbers"
)

// scaled is a graph with the weights of its steps and marks, which are multiplied so that they are integers, because sums of integers take much less time than sums of fractions. The weights of all paths are multiplied by the same number.
type scaled struct {
	graph
	weights []api.Frac // of the steps
	ends    []api.Frac // of the marks, for each spot
	scale   api.Frac   // by which the weights of paths are multiplied
}

// scale returns a scaled graph.
func (g graph) scale() scaled {
	x := scaled{graph: g, weights: make([]api.Frac, len(g.steps)), ends: make([]api.Frac, len(g.spots))}
	arcs, scale := g.scaleArcs(x.scaleWords())
	for i, s := range g.steps {
		if s.arc != noArc {
			x.weights[i] = arcs[s.arc]
		}
	}
	marks, common := enlarge(lists.Map(g.last(), func(i int) api.Frac { return g.marks[i].Exact() }))
	for k, i := range g.last() {
		x.ends[i] = marks[k]
	}
	x.scale = frac.Mul(scale, common)
	return x
}

// enlarge multiplies weights by the least number that makes integers of them, and returns this number too.
func enlarge(weights []api.Frac) ([]api.Frac, api.Frac) {
	common := numbers.Denominator(weights)
	return numbers.Multiply(weights, common), common
}

// scaleWords multiplies the weights of words, and returns by what, for each frame.
func (x scaled) scaleWords() []api.Frac {
	choices := make([][]int, len(x.frames))
	for i, s := range x.steps {
		if s.arc == noArc {
			t := x.spots[s.to].frame
			choices[t] = append(choices[t], i)
		}
	}
	return lists.Map(choices, func(steps []int) api.Frac {
		weights, common := enlarge(lists.Map(steps, func(i int) api.Frac { return x.steps[i].weight.Exact() }))
		for k, i := range steps {
			x.weights[i] = weights[k]
		}
		return common
	})
}

// scaleArcs returns the weights of the arcs multiplied, and the number by which all that leads to the end is multiplied, if the words are multiplied by these numbers. What leads to a frame is multiplied by a multiple of the number for the frame before it; so the weight of a word and an arc is multiplied by the quotient of the numbers for its bounds.
func (g graph) scaleArcs(words []api.Frac) ([]api.Frac, api.Frac) {
	scaled := make([]api.Frac, len(g.arcs))
	scales := []api.Frac{frac.Of(1)}
	for t := 1; t < len(g.frames); t++ {
		last := scales[t-1]
		since := map[int]api.Frac{} // the quotients of the last number and of those before
		for _, i := range g.into[t] {
			from := g.arcs[i].From
			if _, ok := since[from]; !ok {
				since[from] = numbers.Quotient(numbers.Quotient(last, scales[from]), words[from])
			}
		}
		weights, common := enlarge(lists.Map(g.into[t], func(i int) api.Frac { return frac.Mul(g.arcs[i].Weight, since[g.arcs[i].From]) }))
		for k, i := range g.into[t] {
			scaled[i] = weights[k]
		}
		scales = append(scales, frac.Mul(last, common))
	}
	return scaled, scales[len(scales)-1]
}
