package decode

import (
	"maps"
	"slices"

	"earshot/api"
	"earshot/frac"
	"earshot/lists"
	"earshot/numbers"
)

// sums is the rule of Total: the weights of all hypotheses are added.
type sums struct{}

func (sums) along(w api.Frac, factors ...*numbers.Factor) api.Frac {
	return frac.Mul(w, frac.Product(lists.Map(factors, (*numbers.Factor).Exact)...))
}

func (sums) leave(w api.Frac, end *numbers.Factor, _ door) api.Frac { return frac.Mul(w, end.Exact()) }

func (sums) meet(a, b api.Frac) api.Frac { return frac.Add(a, b) }

// Total returns the sum of the weights of all traces.
func Total(t api.Task, o []int) (api.Frac, api.Errno) {
	if e := checkRecording(t, o); e != api.OK {
		return api.Frac{}, e
	}
	n := build(t)
	now, scale := before(frac.Of(1)), frac.Of(1)
	for _, symbol := range o {
		places, e := advance(n, now, symbol, sums{})
		if e != api.OK {
			return api.Frac{}, e
		}
		common := numbers.Denominator(slices.Collect(maps.Values(places)))
		now, scale = after(n, enlarge(places, common), sums{}), frac.Mul(scale, common)
	}
	all := frac.Sum(ends(n, now, sums{})...)
	return numbers.Quotient(all, scale), api.OK
}

// enlarge multiplies weights by a number that makes integers of them, because integers take much less time than fractions.
func enlarge(places map[place]api.Frac, common api.Frac) map[place]api.Frac {
	enlarged := make(map[place]api.Frac, len(places))
	for p, w := range places {
		enlarged[p] = frac.Mul(w, common)
	}
	return enlarged
}
