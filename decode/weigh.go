package decode

import (
	"earshot/api"
	"earshot/numbers"
	"earshot/speech"
	"earshot/whole"
)

// Weight returns the weight of a trace; ErrArg also if the list is no trace for the recording.
func Weight(t api.Task, o []int, trace []api.Point) (api.Frac, api.Errno) {
	if e := checkRecording(t, o); e != api.OK {
		return api.Frac{}, e
	}
	if len(trace) != len(o) || !isTrace(t, trace) {
		return api.Frac{}, api.ErrArg
	}
	weights := speech.Weights(t.Language, Words(trace))
	for i, p := range trace {
		weights = append(weights, modelOf(t, p).Say[p.State][o[i]])
		weights = append(weights, steps(t, trace[:i], p)...)
	}
	if len(trace) > 0 {
		last := trace[len(trace)-1]
		weights = append(weights, modelOf(t, last).End[last.State])
	}
	return numbers.ProductOf(weights), api.OK
}

// steps returns the weights of the steps to a point that comes after others, without those of its word and of its symbol.
func steps(t api.Task, before []api.Point, p api.Point) []api.Frac {
	var weights []api.Frac
	m := modelOf(t, p)
	if len(before) > 0 {
		last := before[len(before)-1]
		if !p.New && p.Phone == last.Phone {
			return []api.Frac{m.Move[last.State][p.State]}
		}
		weights = append(weights, modelOf(t, last).End[last.State])
	}
	if p.New {
		weights = append(weights, variantOf(t, p).Weight)
	}
	return append(weights, m.Start[p.State])
}

func variantOf(t api.Task, p api.Point) api.Variant { return t.Words[p.Word-1][p.Variant] }

func modelOf(t api.Task, p api.Point) api.Model { return t.Phones[variantOf(t, p).Phones[p.Phone]-1] }

// isTrace reports whether a list of points is a trace.
func isTrace(t api.Task, trace []api.Point) bool {
	if len(trace) == 0 {
		return true
	}
	for i, p := range trace {
		if !exists(t, p) || !follows(t, trace[:i], p) {
			return false
		}
	}
	return isLast(t, trace[len(trace)-1])
}

// exists reports whether a task has the word, variant, phone and state of a point.
func exists(t api.Task, p api.Point) bool {
	return whole.Within(p.Word, 1, len(t.Words)) &&
		whole.Within(p.Variant, 0, len(t.Words[p.Word-1])-1) &&
		whole.Within(p.Phone, 0, len(variantOf(t, p).Phones)-1) &&
		whole.Within(p.State, 0, len(modelOf(t, p).Start)-1)
}

// follows reports whether a point can come after others.
func follows(t api.Task, before []api.Point, p api.Point) bool {
	if len(before) == 0 {
		return p.New && p.Phone == 0
	}
	last := before[len(before)-1]
	if p.New {
		return p.Phone == 0 && isLast(t, last)
	}
	return p.Word == last.Word && p.Variant == last.Variant && whole.Within(p.Phone-last.Phone, 0, 1)
}

// isLast reports whether the phone of a point is the last one of its variant.
func isLast(t api.Task, p api.Point) bool { return p.Phone == len(variantOf(t, p).Phones)-1 }
