package wave

import (
	"earshot/api"
	"earshot/whole"
)

// fullWeight is the weight with which an element stays as it is.
const fullWeight = 4096

// shape is a kind of window and how much an element weighs: d is twice its distance from the middle, edge is one more than the size, which is where the weights would be 0.
type shape struct {
	kind   api.WindowKind
	weight func(d, edge int) int
}

// shapes returns all kinds of windows.
func shapes() []shape {
	return []shape{
		{api.WindowFlat, flat},
		{api.WindowTriangle, triangle},
		{api.WindowWelch, welch},
	}
}

func flat(d, edge int) int { return fullWeight }

func triangle(d, edge int) int {
	return whole.Divide(fullWeight*(edge-max(d, -d)), edge)
}

func welch(d, edge int) int {
	return whole.Divide(fullWeight*(edge*edge-d*d), edge*edge)
}

// Window returns the weights of a window; ErrArg if there is no such kind or size.
func Window(kind api.WindowKind, size int) ([]int, api.Errno) {
	if !whole.Within(size, 1, api.MaxFrame) {
		return nil, api.ErrArg
	}
	for _, s := range shapes() {
		if s.kind == kind {
			return s.weights(size), api.OK
		}
	}
	return nil, api.ErrArg
}

// weights returns the weights of a window.
func (s shape) weights(size int) []int {
	list := make([]int, size)
	for i := range list {
		list[i] = s.weight(2*i-(size-1), size+1)
	}
	return list
}

// Weigh returns a frame weighed with the window of its size; ErrArg if there is no such window.
func Weigh(frame []int, kind api.WindowKind) ([]int, api.Errno) {
	if e := checkValues(frame); e != api.OK {
		return nil, e
	}
	weights, e := Window(kind, len(frame))
	if e != api.OK {
		return nil, e
	}
	weighed := make([]int, len(frame))
	for i, weight := range weights {
		weighed[i] = whole.Divide(frame[i]*weight, fullWeight)
	}
	return weighed, api.OK
}
