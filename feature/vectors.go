package feature

import (
	"slices"

	"earshot/api"
	"earshot/lists"
	"earshot/whole"
)

// copyVectors returns a copy of a list of vectors and of each of them.
func copyVectors(v [][]int) [][]int {
	list := make([][]int, len(v))
	for i, x := range v {
		list[i] = make([]int, len(x))
		copy(list[i], x)
	}
	return list
}

// add returns a + b.
func add(a, b []int) []int {
	return lists.Combine(a, b, func(x, y int) int { return x + y })
}

// subtract returns a - b.
func subtract(a, b []int) []int {
	return lists.Combine(a, b, func(x, y int) int { return x - y })
}

// mean returns the mean of at least one vector.
func mean(v [][]int) []int {
	sum := make([]int, len(v[0]))
	for _, x := range v {
		sum = add(sum, x)
	}
	for i, n := range sum {
		sum[i] = whole.Divide(n, len(v))
	}
	return sum
}

// Differences adds to each vector the difference between the vectors after and before it; ErrArg also if the results would not be vectors.
func Differences(v [][]int) ([][]int, api.Errno) {
	if e := checkVectors(v); e != api.OK {
		return nil, e
	}
	longer := make([][]int, len(v))
	for t, x := range v {
		after, before := v[min(t+1, len(v)-1)], v[max(t-1, 0)]
		longer[t] = slices.Concat(x, subtract(after, before))
	}
	return onlyVectors(longer)
}

// Center subtracts the mean from each vector; ErrArg also if the results would not be vectors.
func Center(v [][]int) ([][]int, api.Errno) {
	if e := checkVectors(v); e != api.OK || len(v) == 0 {
		return nil, e
	}
	middle := mean(v)
	centered := make([][]int, len(v))
	for t, x := range v {
		centered[t] = subtract(x, middle)
	}
	return onlyVectors(centered)
}
