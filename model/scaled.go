package model

import (
	"earshot/api"
	"earshot/frac"
	"earshot/lists"
	"earshot/numbers"
)

// scaled has a recording, and the weights of a model that matter for it, multiplied by factors so that they are integers, because sums of integers take much less time than sums of fractions. The weights of all paths for the recording are multiplied by the same number, so that their ratios stay the same.
type scaled struct {
	factors
	recording []int
	start     []api.Frac
	move      [][]api.Frac
	end       []api.Frac
	says      [][]api.Frac // for each symbol of the recording, the weights with which the states say it
}

// factors are what the weights of the start, of what comes after states (moves and ends), and of symbols are multiplied by.
type factors struct {
	starts api.Frac
	leaves api.Frac
	words  api.Frac
}

// scale returns a valid model and a recording of its symbols, scaled.
func scale(m api.Model, o []int) scaled {
	says := make([][]api.Frac, symbols(m))
	for _, k := range o {
		if says[k] == nil {
			says[k] = lists.Map(m.Say, func(row []api.Frac) api.Frac { return row[k] })
		}
	}
	leaves := append([][]api.Frac{m.End}, m.Move...)
	f := factors{numbers.Denominator(m.Start), numbers.Denominator(leaves...), numbers.Denominator(says...)}
	return scaled{
		factors:   f,
		recording: o,
		start:     numbers.Multiply(m.Start, f.starts),
		move:      multiplyAll(m.Move, f.leaves),
		end:       numbers.Multiply(m.End, f.leaves),
		says:      multiplyAll(says, f.words),
	}
}

// together returns what a product is multiplied by that has so many weights of each kind.
func (f factors) together(starts, leaves, words int) api.Frac {
	return frac.Product(numbers.Power(f.starts, starts), numbers.Power(f.leaves, leaves), numbers.Power(f.words, words))
}

func multiplyAll(rows [][]api.Frac, factor api.Frac) [][]api.Frac {
	return lists.Map(rows, func(row []api.Frac) []api.Frac { return numbers.Multiply(row, factor) })
}
