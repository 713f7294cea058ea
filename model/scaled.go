package model

import (
	"earshot/api"
	"earshot/frac"
	"earshot/lists"
)

// scaled has a recording, and the weights of a model that matter for it, multiplied by factors so that they are integers, because sums of integers take much less time than sums of fractions. The weights of all paths for the recording are multiplied by the same number, so that their ratios stay the same.
type scaled struct {
	factors
	recording []int
	start     []api.Frac
	move      [][]api.Frac
	end       []api.Frac
	says      [][]api.Frac // for each symbol of the recording, the weights with which the states say it
}

// factors are what the weights of the start, of what comes after states (moves and ends), and of symbols are multiplied by.
type factors struct {
	starts api.Frac
	leaves api.Frac
	words  api.Frac
}

// scale returns a valid model and a recording of its symbols, scaled.
func scale(m api.Model, o []int) scaled {
	says := make([][]api.Frac, symbols(m))
	for _, k := range o {
		if says[k] == nil {
			says[k] = lists.Map(m.Say, func(row []api.Frac) api.Frac { return row[k] })
		}
	}
	leaves := append([][]api.Frac{m.End}, m.Move...)
	f := factors{commonDenominator(m.Start), commonDenominator(leaves...), commonDenominator(says...)}
	return scaled{
		factors:   f,
		recording: o,
		start:     multiply(m.Start, f.starts),
		move:      multiplyAll(m.Move, f.leaves),
		end:       multiply(m.End, f.leaves),
		says:      multiplyAll(says, f.words),
	}
}

// together returns what a product is multiplied by that has so many weights of each kind.
func (f factors) together(starts, leaves, words int) api.Frac {
	return frac.Product(power(f.starts, starts), power(f.leaves, leaves), power(f.words, words))
}

// power returns a to the power n, which is from 0 to api.MaxPower.
func power(a api.Frac, n int) api.Frac {
	b, _ := frac.Pow(a, n)
	return b
}

// commonDenominator returns the least positive integer by which all weights can be multiplied to be integers.
func commonDenominator(rows ...[]api.Frac) api.Frac {
	common := frac.Of(1)
	for _, row := range rows {
		for _, x := range row {
			common = commonMultiple(common, denominator(x))
		}
	}
	return common
}

// denominator returns the denominator of a in lowest terms.
func denominator(a api.Frac) api.Frac {
	d := frac.Canon(a).D
	if len(d) == 0 {
		return frac.Of(1)
	}
	return api.Frac{N: d}
}

// commonMultiple returns the least common multiple of two positive integers.
func commonMultiple(a, b api.Frac) api.Frac {
	return frac.Mul(a, denominator(quotient(a, b)))
}

// quotient returns a / b, for b that is not 0.
func quotient(a, b api.Frac) api.Frac {
	c, _ := frac.Div(a, b)
	return c
}

// multiply returns a row times a factor.
func multiply(row []api.Frac, factor api.Frac) []api.Frac {
	return lists.Map(row, func(x api.Frac) api.Frac { return times(x, factor) })
}

func multiplyAll(rows [][]api.Frac, factor api.Frac) [][]api.Frac {
	return lists.Map(rows, func(row []api.Frac) []api.Frac { return multiply(row, factor) })
}

// divide returns a row divided by a number, which is not 0.
func divide(row []api.Frac, by api.Frac) []api.Frac {
	return lists.Map(row, func(x api.Frac) api.Frac { return quotient(x, by) })
}

// times returns x y. In many models most weights are 0; they take no time.
func times(x, y api.Frac) api.Frac {
	if len(x.N) == 0 || len(y.N) == 0 {
		return api.Frac{}
	}
	return frac.Mul(x, y)
}
