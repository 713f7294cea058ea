package lattice

import (
	"maps"
	"slices"

	"earshot/api"
	"earshot/checks"
	"earshot/frac"
	"earshot/numbers"
	"earshot/whole"
)

// checkTerm returns the error of a lattice, of a language model for it, and of a term.
func checkTerm(l api.Lattice, m api.Language, term []int) api.Errno {
	return checks.First(check(l, m), checks.Length(len(term), api.MaxSeek), checks.Argument(len(term) > 0 && whole.AllWithin(term, 1, m.Table.Words)))
}

// Find returns where paths have a term, with the part of the paths that have it there; ErrArg if the term has no words, ErrNone if there is no path.
func Find(l api.Lattice, m api.Language, term ...int) ([]api.Hit, api.Errno) {
	if e := checkTerm(l, m, term); e != api.OK {
		return nil, e
	}
	x := build(l, m, noTerm).scale()
	before, after := x.before(frac.Add), x.after(frac.Add)
	if frac.Sign(after[0]) == 0 {
		return nil, api.ErrNone
	}
	var hits []api.Hit
	for from, spots := range x.frames {
		now := map[int]api.Frac{}
		for _, i := range spots {
			now[i] = before[i]
		}
		for _, word := range term {
			now = x.say(now, word)
		}
		sums := x.finish(now, after)
		for _, to := range slices.Sorted(maps.Keys(sums)) {
			hits = append(hits, api.Hit{From: from, To: to, Weight: numbers.Quotient(sums[to], after[0])})
		}
	}
	return hits, api.OK
}

// say returns the weights at the spots to which a word leads from some others.
func (x scaled) say(now map[int]api.Frac, word int) map[int]api.Frac {
	chosen := x.follow(now, func(s spot) bool { return s.word == word })
	return x.follow(chosen, func(spot) bool { return true })
}

// follow returns the weights at the spots to which steps lead from some others, as far as they are allowed.
func (x scaled) follow(now map[int]api.Frac, allows func(s spot) bool) map[int]api.Frac {
	next := map[int]api.Frac{}
	for i, w := range now {
		weights := cut(x.weights, x.rows[i])
		for k, s := range x.row(i) {
			if allows(x.spots[s.to]) {
				next[s.to] = frac.Add(next[s.to], frac.Mul(w, weights[k]))
			}
		}
	}
	return next
}

// finish returns, for each number of a frame, the sum of the weights at its spots times what comes after them.
func (x scaled) finish(now map[int]api.Frac, after []api.Frac) map[int]api.Frac {
	sums := map[int]api.Frac{}
	for i, w := range now {
		t := x.spots[i].frame
		sums[t] = frac.Add(sums[t], frac.Mul(w, after[i]))
	}
	return sums
}

// Has returns the part of the paths that have a term somewhere; ErrArg if the term has no words, ErrNone if there is no path.
func Has(l api.Lattice, m api.Language, term ...int) (api.Frac, api.Errno) {
	if e := checkTerm(l, m, term); e != api.OK {
		return api.Frac{}, e
	}
	x := build(l, m, listen(term)).scale()
	before := x.before(frac.Add)
	var all, found api.Frac
	for _, i := range x.last() {
		w := frac.Mul(before[i], x.ends[i])
		all = frac.Add(all, w)
		if x.spots[i].heard == len(term) {
			found = frac.Add(found, w)
		}
	}
	if frac.Sign(all) == 0 {
		return api.Frac{}, api.ErrNone
	}
	return numbers.Quotient(found, all), api.OK
}

// listen returns a function that says with how many words of a term a list of words ends, if that was known before its last word. Once the whole term was heard, nothing changes any more.
func listen(term []int) func(heard, word int) int {
	borders := []int{0, 0} // for each number of words, how many of the last ones, but not all, are again first ones
	hear := func(heard, word int) int {
		for heard > 0 && term[heard] != word {
			heard = borders[heard]
		}
		if term[heard] == word {
			return heard + 1
		}
		return 0
	}
	for i := 1; i < len(term); i++ {
		borders = append(borders, hear(borders[i], term[i]))
	}
	return func(heard, word int) int {
		if heard == len(term) {
			return heard
		}
		return hear(heard, word)
	}
}
