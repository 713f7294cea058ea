package feature

import (
	"math"
	"slices"

	"earshot/api"
	"earshot/whole"
)

// mostRounds is the greatest number of rounds of a training.
const mostRounds = 1000

// Improve returns the improved codebook.
func Improve(v [][]int, book [][]int) ([][]int, api.Errno) {
	if e := checkCoding(v, book); e != api.OK {
		return nil, e
	}
	return improve(v, book), api.OK
}

// improve replaces each codeword by the mean of the vectors of which it is the nearest one, if there are any.
func improve(v, book [][]int) [][]int {
	near := make([][][]int, len(book))
	for _, x := range v {
		i, _ := nearest(x, book)
		near[i] = append(near[i], x)
	}
	better := copyVectors(book)
	for i, group := range near {
		if len(group) > 0 {
			better[i] = mean(group)
		}
	}
	return better
}

// Train improves a codebook so many times, or until it does not change any more, and returns after how many rounds it changed; ErrArg also if the number of rounds is out of range.
func Train(v [][]int, book [][]int, rounds int) ([][]int, int, api.Errno) {
	if e := checkCoding(v, book); e != api.OK {
		return nil, 0, e
	}
	if !whole.Within(rounds, 0, mostRounds) {
		return nil, 0, api.ErrArg
	}
	trained := copyVectors(book)
	for round := range rounds {
		better := improve(v, trained)
		if slices.EqualFunc(better, trained, slices.Equal[[]int]) {
			return trained, round, api.OK
		}
		trained = better
	}
	return trained, rounds, api.OK
}

// Seeds returns k vectors of a list, or all different ones if there are less, each of them far from those before; ErrArg also if there are no vectors, or if k is out of range.
func Seeds(v [][]int, k int) ([][]int, api.Errno) {
	if e := checkVectors(v); e != api.OK {
		return nil, e
	}
	if len(v) == 0 || !whole.Within(k, 1, api.MaxCodewords) {
		return nil, api.ErrArg
	}
	// The distance of each vector to its nearest seed; without seeds, the first vector comes first.
	left := slices.Repeat([]int{math.MaxInt}, len(v))
	var seeds [][]int
	for next := 0; len(seeds) < k && left[next] > 0; next = farthest(left) {
		seeds = append(seeds, v[next])
		for t, x := range v {
			left[t] = min(left[t], distance(x, v[next]))
		}
	}
	return copyVectors(seeds), api.OK
}

// farthest returns the index of the greatest distance, the first one of several.
func farthest(left []int) int { return slices.Index(left, slices.Max(left)) }
