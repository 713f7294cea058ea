package model

import (
	"slices"

	"earshot/api"
	"earshot/frac"
	"earshot/lists"
	"earshot/whole"
)

// mostRounds is the greatest number of rounds of a training.
const mostRounds = 20

// Reestimate returns the model that is reestimated from counts; ErrArg also if they do not fit the model, or one of them is negative.
func Reestimate(m api.Model, c api.Counts) (api.Model, api.Errno) {
	if e := checkModels(m); e != api.OK {
		return api.Model{}, e
	}
	if counted := modelOf(c); !sameLengths(m, counted) || slices.ContainsFunc(rows(counted), anyNegative) {
		return api.Model{}, api.ErrArg
	}
	return reestimate(m, c), api.OK
}

// modelOf returns a model with counts in the place of weights.
func modelOf(c api.Counts) api.Model {
	return api.Model{Start: c.Start, Move: c.Move, End: c.End, Say: c.Say}
}

func anyNegative(row []api.Frac) bool {
	return slices.ContainsFunc(row, func(x api.Frac) bool { return frac.Sign(x) < 0 })
}

// reestimate returns the model that is reestimated from counts. It does not matter whether they are all multiplied by the same number.
func reestimate(m api.Model, c api.Counts) api.Model {
	return assemble(lists.Combine(distributions(m), distributions(modelOf(c)), func(weights, counts []api.Frac) []api.Frac {
		parts, e := frac.Normalize(counts)
		if e == api.ErrZero {
			return canonical(weights)
		}
		return parts
	}))
}

// Coarsen returns a model with its distributions coarsened to the denominator d; ErrArg also if d is less than 1.
func Coarsen(m api.Model, d int) (api.Model, api.Errno) {
	if e := checkModels(m); e != api.OK {
		return api.Model{}, e
	}
	if d < 1 {
		return api.Model{}, api.ErrArg
	}
	return coarsen(m, d), api.OK
}

// coarsen returns a model with its distributions coarsened to the denominator d, which is positive.
func coarsen(m api.Model, d int) api.Model {
	return rebuild(m, func(weights []api.Frac) []api.Frac {
		coarse := lists.Map(weights, func(x api.Frac) api.Frac {
			down, _ := frac.Floor(x, d)
			return down
		})
		missing := frac.Sub(frac.Of(1), frac.Sum(coarse...))
		best := frac.Best(weights...)
		coarse[best] = frac.Add(coarse[best], missing)
		return coarse
	})
}

// Train counts data and reestimates a model in so many rounds, and coarsens it after each round if d is not 0; ErrArg also if the number of rounds is out of range, or d is negative.
func Train(m api.Model, rounds, d int, data ...[]int) (api.Model, api.Errno) {
	if e := checkData(m, data...); e != api.OK {
		return api.Model{}, e
	}
	if !whole.Within(rounds, 0, mostRounds) || d < 0 {
		return api.Model{}, api.ErrArg
	}
	trained := rebuild(m, canonical)
	for range rounds {
		trained = reestimate(trained, countAll(trained, data).Counts)
		if d > 0 {
			trained = coarsen(trained, d)
		}
	}
	return trained, api.OK
}
