package feature

import (
	"math"

	"earshot/api"
)

// nearest returns the index of the nearest codeword of a vector, the first one of several, and its distance.
func nearest(x []int, book [][]int) (int, int) {
	best, least := 0, math.MaxInt
search:
	for i, word := range book {
		sum := 0
		for j, n := range word {
			sum += (x[j] - n) * (x[j] - n)
			if sum >= least {
				continue search
			}
		}
		best, least = i, sum
	}
	return best, least
}

// distance returns the distance of two vectors.
func distance(a, b []int) int {
	_, sum := nearest(a, [][]int{b})
	return sum
}

// Distance returns the distance of two vectors with the same number of components.
func Distance(a, b []int) (int, api.Errno) {
	if e := checkVectors([][]int{a, b}); e != api.OK {
		return 0, e
	}
	return distance(a, b), api.OK
}

// Nearest returns the index of the nearest codeword of a vector, and its distance.
func Nearest(v []int, book [][]int) (int, int, api.Errno) {
	if e := checkCoding([][]int{v}, book); e != api.OK {
		return 0, 0, e
	}
	i, sum := nearest(v, book)
	return i, sum, api.OK
}

// Quantize returns the indexes of the nearest codewords of vectors.
func Quantize(v [][]int, book [][]int) ([]int, api.Errno) {
	if e := checkCoding(v, book); e != api.OK {
		return nil, e
	}
	symbols := make([]int, len(v))
	for t, x := range v {
		symbols[t], _ = nearest(x, book)
	}
	return symbols, api.OK
}

// Cost returns the sum of the distances of vectors to their nearest codewords.
func Cost(v [][]int, book [][]int) (int, api.Errno) {
	if e := checkCoding(v, book); e != api.OK {
		return 0, e
	}
	cost := 0
	for _, x := range v {
		_, sum := nearest(x, book)
		cost += sum
	}
	return cost, api.OK
}
