package decode

import (
	"cmp"
	"slices"

	"earshot/api"
)

// Words returns the words of a list of points.
func Words(trace []api.Point) []int {
	var words []int
	for _, p := range trace {
		if p.New {
			words = append(words, p.Word)
		}
	}
	return words
}

// trace is a list of points, the last one first. Traces share their beginnings.
type trace struct {
	before *trace
	point  api.Point
	rank   int // how many traces to tokens of the same frame come before this one
}

// order returns the rank of a trace. There is only one trace before the first frame, which is nil.
func (x *trace) order() int {
	if x == nil {
		return 0
	}
	return x.rank
}

// points returns the points of a trace, the first one first.
func (x *trace) points() []api.Point {
	var list []api.Point
	for ; x != nil; x = x.before {
		list = append(list, x.point)
	}
	slices.Reverse(list)
	return list
}

// words returns the words of a trace.
func (x *trace) words() []int {
	var list []int
	for ; x != nil; x = x.before {
		if x.point.New {
			list = append(list, x.point.Word)
		}
	}
	slices.Reverse(list)
	return list
}

func comparePoints(p, q api.Point) int {
	return cmp.Or(
		compareBools(p.New, q.New),
		cmp.Compare(p.Word, q.Word),
		cmp.Compare(p.Variant, q.Variant),
		cmp.Compare(p.Phone, q.Phone),
		cmp.Compare(p.State, q.State))
}

// compareBools compares with false before true.
func compareBools(a, b bool) int {
	switch {
	case a == b:
		return 0
	case b:
		return -1
	}
	return 1
}
