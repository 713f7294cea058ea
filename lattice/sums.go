package lattice

import (
	"iter"
	"slices"

	"earshot/api"
	"earshot/frac"
	"earshot/numbers"
)

// join puts the weights of paths together: it adds them, or takes the greater one.
type join func(a, b api.Frac) api.Frac

func greater(a, b api.Frac) api.Frac { return numbers.Greatest(a, b) }

// passage is a step in one of both directions.
type passage struct {
	from   int
	to     int
	weight api.Frac
}

// forwards yields the steps, those to a spot before those from it.
func (x scaled) forwards() iter.Seq[passage] {
	return func(yield func(passage) bool) {
		for i, s := range x.steps {
			if !yield(passage{s.from, s.to, x.weights[i]}) {
				return
			}
		}
	}
}

// backwards yields the steps from their ends to their beginnings, in the opposite order.
func (x scaled) backwards() iter.Seq[passage] {
	return func(yield func(passage) bool) {
		for i, s := range slices.Backward(x.steps) {
			if !yield(passage{s.to, s.from, x.weights[i]}) {
				return
			}
		}
	}
}

// pass returns, for each spot, the joined weights of all that leads to it, if values are the weights that begin there.
func pass(values []api.Frac, passages iter.Seq[passage], j join) []api.Frac {
	for p := range passages {
		values[p.to] = j(values[p.to], frac.Mul(values[p.from], p.weight))
	}
	return values
}

// before returns, for each spot, the joined weights of all ways to it.
func (x scaled) before(j join) []api.Frac {
	values := make([]api.Frac, len(x.spots))
	values[0] = frac.Of(1)
	return pass(values, x.forwards(), j)
}

// after returns, for each spot, the joined weights of all ways from it to the end, with the mark. For the first spot, these are all paths.
func (x scaled) after(j join) []api.Frac { return pass(slices.Clone(x.ends), x.backwards(), j) }

// through returns, for each arc, the joined weights of the paths that it lies on, 0 if there is none; and the joined weights of all paths.
func (x scaled) through(j join) ([]api.Frac, api.Frac) {
	before, after := x.before(j), x.after(j)
	arcs := make([]api.Frac, len(x.arcs))
	for i, s := range x.steps {
		if s.arc != noArc {
			arcs[s.arc] = j(arcs[s.arc], frac.Product(before[s.from], x.weights[i], after[s.to]))
		}
	}
	return arcs, after[0]
}

// Total returns the sum of the weights of all paths.
func Total(l api.Lattice, m api.Language) (api.Frac, api.Errno) {
	if e := check(l, m); e != api.OK {
		return api.Frac{}, e
	}
	x := build(l, m, noTerm).scale()
	return numbers.Quotient(x.after(frac.Add)[0], x.scale), api.OK
}
