package model

import (
	"iter"

	"earshot/api"
	"earshot/frac"
	"earshot/lists"
	"earshot/numbers"
)

// Forward returns the forward weights of a recording.
func Forward(m api.Model, o []int) ([][]api.Frac, api.Errno) {
	if e := checkData(m, o); e != api.OK {
		return nil, e
	}
	s := scale(m, o)
	weights := s.forward(s.say).spoken
	for t, row := range weights {
		weights[t] = numbers.Divide(row, s.together(1, t, t+1))
	}
	return weights, api.OK
}

// Backward returns the backward weights of a recording.
func Backward(m api.Model, o []int) ([][]api.Frac, api.Errno) {
	if e := checkData(m, o); e != api.OK {
		return nil, e
	}
	s := scale(m, o)
	weights := s.backward(frac.Sum, s.say).silent
	for t, row := range weights {
		weights[t] = numbers.Divide(row, s.together(0, len(o)-t, len(o)-t-1))
	}
	return weights, api.OK
}

// Likelihood returns the likelihood of a recording.
func Likelihood(m api.Model, o []int) (api.Frac, api.Errno) {
	if e := checkData(m, o); e != api.OK {
		return api.Frac{}, e
	}
	s := scale(m, o)
	return numbers.Quotient(s.likelihood(), s.together(1, len(o), len(o))), api.OK
}

// likelihood returns the sum of the weights of all paths.
func (s scaled) likelihood() api.Frac {
	if len(s.recording) == 0 {
		return api.Frac{}
	}
	last := s.forward(s.say).spoken[len(s.recording)-1]
	return sum(len(last), func(i int) api.Frac { return numbers.Times(last[i], s.end[i]) })
}

// direction is a way through a recording: its frames in this order, the weights of the states at the first one of these frames, and, for each state, the weights with which it is reached from the states of the frame before.
type direction struct {
	frames iter.Seq[int]
	first  []api.Frac
	reach  [][]api.Frac
}

// pass has the weights of the states for each frame, without and with the weight of the symbol that is said at this frame.
type pass struct {
	silent [][]api.Frac
	spoken [][]api.Frac
}

// forward returns the pass from the first frame to the last one: its spoken weights are the forward weights.
func (s scaled) forward(say func(t int, row []api.Frac) []api.Frac) pass {
	return s.pass(direction{upwards(len(s.recording)), s.start, lists.Columns(s.move)}, frac.Sum, say)
}

// backward returns the pass from the last frame to the first one: its silent weights are the backward weights, if join adds.
func (s scaled) backward(join func(l ...api.Frac) api.Frac, say func(t int, row []api.Frac) []api.Frac) pass {
	return s.pass(direction{downwards(len(s.recording)), s.end, s.move}, join, say)
}

// pass goes through the recording. The weights with which a state is reached are joined, and say adds the weights of the symbol of a frame to a row.
func (s scaled) pass(d direction, join func(l ...api.Frac) api.Frac, say func(t int, row []api.Frac) []api.Frac) pass {
	p := pass{make([][]api.Frac, len(s.recording)), make([][]api.Frac, len(s.recording))}
	var before []api.Frac
	for t := range d.frames {
		row := d.first
		if before != nil {
			row = lists.Map(d.reach, func(from []api.Frac) api.Frac {
				return over(len(from), join, func(i int) api.Frac { return numbers.Times(from[i], before[i]) })
			})
		}
		before = say(t, row)
		p.silent[t], p.spoken[t] = row, before
	}
	return p
}

// say returns a row of weights of states, each of them times the weight with which the state says the symbol of a frame.
func (s scaled) say(t int, row []api.Frac) []api.Frac {
	return timesRow(row, s.says[s.recording[t]])
}

// timesRow returns the products of the elements of two rows.
func timesRow(a, b []api.Frac) []api.Frac { return lists.Combine(a, b, numbers.Times) }

// over joins the numbers that f returns for 0 to n - 1, without those that are 0.
func over(n int, join func(l ...api.Frac) api.Frac, f func(i int) api.Frac) api.Frac {
	var terms []api.Frac
	for i := range n {
		if x := f(i); len(x.N) > 0 {
			terms = append(terms, x)
		}
	}
	return join(terms...)
}

// sum returns the sum of the numbers that f returns for 0 to n - 1.
func sum(n int, f func(i int) api.Frac) api.Frac { return over(n, frac.Sum, f) }

// upwards yields 0 to n - 1.
func upwards(n int) iter.Seq[int] {
	return func(yield func(int) bool) {
		for t := range n {
			if !yield(t) {
				return
			}
		}
	}
}

// downwards yields n - 1 to 0.
func downwards(n int) iter.Seq[int] {
	return func(yield func(int) bool) {
		for t := range upwards(n) {
			if !yield(n - 1 - t) {
				return
			}
		}
	}
}
