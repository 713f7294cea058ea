// Package speech has what several layers need of sentences that may be longer than those of layer 6.
package speech

import (
	"slices"

	"earshot/api"
	"earshot/gram"
)

// Weights returns the weights of a sentence of any length, for a valid language model that has its words: of each word, and of the mark behind them.
func Weights(l api.Language, s []int) []api.Frac {
	marked := slices.Concat(make([]int, l.Table.Order-1), s, []int{0})
	var weights []api.Frac
	for i := range len(s) + 1 {
		last := i + l.Table.Order - 1
		w, _ := gram.Weight(l, marked[i:last], marked[last])
		weights = append(weights, w)
	}
	return weights
}
