package model

import (
	"earshot/api"
	"earshot/frac"
	"earshot/numbers"
	"earshot/whole"
)

// Weight returns the weight of a path for a recording; ErrArg also if it is no path.
func Weight(m api.Model, o, path []int) (api.Frac, api.Errno) {
	if e := checkData(m, o); e != api.OK {
		return api.Frac{}, e
	}
	if len(path) != len(o) || !whole.AllWithin(path, 0, len(m.Start)-1) {
		return api.Frac{}, api.ErrArg
	}
	return weight(m, o, path), api.OK
}

// weight returns the weight of a path for a recording.
func weight(m api.Model, o, path []int) api.Frac {
	if len(path) == 0 {
		return api.Frac{}
	}
	var product []api.Frac
	next := m.Start
	for t, i := range path {
		product = append(product, next[i], m.Say[i][o[t]])
		next = m.Move[i]
	}
	return frac.Product(append(product, m.End[path[len(path)-1]])...)
}

// Best returns the best path for a recording and its weight; ErrNone if there is none.
func Best(m api.Model, o []int) ([]int, api.Frac, api.Errno) {
	if e := checkData(m, o); e != api.OK {
		return nil, api.Frac{}, e
	}
	path := scale(m, o).bestPath()
	best := weight(m, o, path)
	if frac.Sign(best) == 0 {
		return nil, api.Frac{}, api.ErrNone
	}
	return path, best, api.OK
}

// bestPath returns the best path, or any path if there is none. It looks for the greatest weights from the end on, so that it can take the first one of the best states at each frame, which makes the path the first one of the best.
func (s scaled) bestPath() []int {
	ahead := s.backward(numbers.Greatest, s.say).spoken
	path := make([]int, len(s.recording))
	next := s.start
	for t := range upwards(len(path)) {
		path[t] = frac.Best(timesRow(next, ahead[t])...)
		next = s.move[path[t]]
	}
	return path
}

// Spans returns the longest pieces of a list that consist of equal numbers.
func Spans(path []int) []api.Span {
	var spans []api.Span
	for i, n := range path {
		if i == 0 || n != path[i-1] {
			spans = append(spans, api.Span{State: n, From: i})
		}
		spans[len(spans)-1].To = i + 1
	}
	return spans
}
