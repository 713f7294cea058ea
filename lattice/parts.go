package lattice

import (
	"iter"
	"slices"

	"earshot/api"
	"earshot/checks"
	"earshot/frac"
	"earshot/numbers"
)

// weighed has, for each arc of a lattice, the sum of the weights of the paths that it lies on, and the sum of the weights of all paths. All of them are multiplied by the same number.
type weighed struct {
	arcs  []api.Arc
	sums  []api.Frac
	total api.Frac
}

// weighArcs returns the sums of a lattice with a language model; ErrNone if there is no path.
func weighArcs(l api.Lattice, m api.Language) (weighed, api.Errno) {
	if e := check(l, m); e != api.OK {
		return weighed{}, e
	}
	sums, total := build(l, m, noTerm).scale().through(frac.Add)
	if frac.Sign(total) == 0 {
		return weighed{}, api.ErrNone
	}
	return weighed{l.Arcs, sums, total}, api.OK
}

// part returns the part of some paths, of the sum of their weights.
func (x weighed) part(sum api.Frac) api.Frac { return numbers.Quotient(sum, x.total) }

// Parts returns, for each arc, the part of the paths that it lies on; ErrNone if there is no path.
func Parts(l api.Lattice, m api.Language) ([]api.Frac, api.Errno) {
	x, e := weighArcs(l, m)
	if e != api.OK {
		return nil, e
	}
	return numbers.Divide(x.sums, x.total), api.OK
}

// Beam returns the lattice with those arcs that lie on a path whose weight is at least ratio times that of the best path.
func Beam(l api.Lattice, m api.Language, ratio api.Frac) (api.Lattice, api.Errno) {
	isRatio := frac.Sign(ratio) >= 0 && frac.Cmp(ratio, frac.Of(1)) <= 0
	if e := checks.First(check(l, m), checks.Argument(isRatio)); e != api.OK {
		return api.Lattice{}, e
	}
	weights, best := build(l, m, noTerm).scale().through(greater)
	least := frac.Mul(ratio, best)
	return pick(l, func(yield func(int) bool) {
		for i, w := range weights {
			if frac.Sign(w) > 0 && frac.Cmp(w, least) >= 0 && !yield(i) {
				return
			}
		}
	}), api.OK
}

// Cuts returns, for each number t from 0 to the number of frames, the part of the paths that have an arc from or to t; ErrNone if there is no path.
func Cuts(l api.Lattice, m api.Language) ([]api.Frac, api.Errno) {
	x, e := weighArcs(l, m)
	if e != api.OK {
		return nil, e
	}
	cuts := make([]api.Frac, l.Frames+1)
	for i, a := range x.arcs {
		cuts[a.To] = frac.Add(cuts[a.To], x.sums[i])
		if a.From == 0 {
			cuts[0] = frac.Add(cuts[0], x.sums[i])
		}
	}
	return numbers.Divide(cuts, x.total), api.OK
}

// Frames returns, for each frame, the words with which paths explain it, in increasing order, with their parts; ErrNone if there is no path.
func Frames(l api.Lattice, m api.Language) ([][]api.Share, api.Errno) {
	x, e := weighArcs(l, m)
	if e != api.OK {
		return nil, e
	}
	frames := make([][]api.Share, l.Frames)
	for word, arcs := range x.words() {
		var last, part api.Frac
		for t, sum := range x.explained(arcs) {
			// Most sums are those of the frame before.
			if frac.Cmp(sum, last) != 0 {
				last, part = sum, x.part(sum)
			}
			frames[t] = append(frames[t], api.Share{Word: word, Weight: copyOf(part)})
		}
	}
	return frames, api.OK
}

// copyOf returns a number in new memory.
func copyOf(a api.Frac) api.Frac {
	return api.Frac{Neg: a.Neg, N: slices.Clone(a.N), D: slices.Clone(a.D)}
}

// words yields the words of the arcs that lie on paths, in increasing order, with these arcs.
func (x weighed) words() iter.Seq2[int, []int] {
	return func(yield func(int, []int) bool) {
		var arcs [api.MaxWords + 1][]int
		for i, a := range x.arcs {
			if frac.Sign(x.sums[i]) > 0 {
				arcs[a.Word] = append(arcs[a.Word], i)
			}
		}
		for word, list := range arcs {
			if len(list) > 0 && !yield(word, list) {
				return
			}
		}
	}
}

// explained yields the frames that some arcs with the same word explain, in order, with the sum of the weights of the paths of which one of them explains this frame.
func (x weighed) explained(arcs []int) iter.Seq2[int, api.Frac] {
	return func(yield func(int, api.Frac) bool) {
		changes := map[int]api.Frac{}
		last := 0
		for _, i := range arcs {
			a := x.arcs[i]
			changes[a.From] = frac.Add(changes[a.From], x.sums[i])
			changes[a.To] = frac.Sub(changes[a.To], x.sums[i])
			last = max(last, a.To)
		}
		var sum api.Frac
		for t := range last {
			if change, ok := changes[t]; ok {
				sum = frac.Add(sum, change)
			}
			if frac.Sign(sum) > 0 && !yield(t, sum) {
				return
			}
		}
	}
}
