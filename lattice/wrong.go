package lattice

import (
	"earshot/api"
	"earshot/frac"
)

// Wrong returns the expected wrong frames of a path; ErrArg if the list is no path.
func Wrong(l api.Lattice, m api.Language, path []int) (api.Frac, api.Errno) {
	if e := checkPath(l, m, path); e != api.OK {
		return api.Frac{}, e
	}
	x, e := weighArcs(l, m)
	if e != api.OK {
		return api.Frac{}, e
	}
	right := x.right()
	var sum api.Frac
	for _, i := range path {
		sum = frac.Add(sum, right[i])
	}
	return frac.Sub(frac.Of(l.Frames), x.part(sum)), api.OK
}

// Safest returns the path with the least expected wrong frames, the first one in lexicographic order of several, and this number; ErrNone if there is no path.
func Safest(l api.Lattice, m api.Language) (api.Route, api.Frac, api.Errno) {
	x, e := weighArcs(l, m)
	if e != api.OK {
		return api.Route{}, api.Frac{}, e
	}
	path, sum := x.safest(l.Frames)
	route := api.Route{Arcs: path, Words: wordsOf(l, path), Weight: weigh(l, m, path)}
	return route, frac.Sub(frac.Of(l.Frames), x.part(sum)), api.OK
}

// right returns, for each arc that lies on a path, the sum over its frames of the weights of the paths that explain the frame with the same word.
func (x weighed) right() []api.Frac {
	right := make([]api.Frac, len(x.arcs))
	for _, arcs := range x.words() {
		before := map[int]api.Frac{} // the sum over all frames before each bound of an arc
		var sum api.Frac
		for t, w := range x.explained(arcs) {
			before[t], sum = sum, frac.Add(sum, w)
			before[t+1] = sum
		}
		for _, i := range arcs {
			right[i] = frac.Sub(before[x.arcs[i].To], before[x.arcs[i].From])
		}
	}
	return right
}

// safest returns the path whose arcs have the greatest sum of what is right, the first one of several, and this sum.
func (x weighed) safest(frames int) ([]int, api.Frac) {
	right := x.right()
	most := make([]api.Frac, frames+1) // what is right at most from a frame on
	first := make([]int, frames+1)     // the arc with which that begins
	for i := len(x.arcs) - 1; i >= 0; i-- {
		a := x.arcs[i]
		// Of equal sums, the one with the first arc comes last here. What does not lead to the end has the sum 0, so it is not chosen where something else does.
		if sum := frac.Add(right[i], most[a.To]); frac.Cmp(sum, most[a.From]) >= 0 {
			most[a.From], first[a.From] = sum, i
		}
	}
	var path []int
	for t := 0; t < frames; t = x.arcs[first[t]].To {
		path = append(path, first[t])
	}
	return path, most[0]
}
