package feature_test

import (
	"math"
	"math/rand"
	"slices"
	"testing"

	"earshot/api"
)

// lengths returns all possible lengths of a transform.
func lengths() []int { return []int{1, 2, 4, 8, 16, 32, 64} }

// nearestInt returns the integer that is nearest to a / b, of two the one that is farther from 0, computed without the program.
func nearestInt(a, b int) int {
	quotient, rest := a/b, a%b
	if rest < 0 {
		return -nearestInt(-a, b)
	}
	if rest >= b-rest {
		quotient++
	}
	return quotient
}

// edgeInts returns numbers at the edges of the ranges of this layer.
func edgeInts() []int {
	list := []int{0, 1, 2, 3, 32, 33, 34, 63, 64, 65, 256, 257, 1000, 1001, 1024, 1025, 4096, 4097, 1 << 16, 1<<16 + 1, 1 << 20, 1<<20 + 1, 1 << 24, 1<<24 + 1, 1 << 40, 1<<40 + 1, math.MaxInt}
	for _, n := range slices.Clone(list) {
		list = append(list, -n)
	}
	return append(list, math.MinInt)
}

// randomList returns n numbers whose absolute values are at most bound; the greatest ones are frequent.
func randomList(r *rand.Rand, n, bound int) []int {
	x := make([]int, n)
	for i := range x {
		switch r.Intn(6) {
		case 0:
			x[i] = bound
		case 1:
			x[i] = -bound
		case 2:
			x[i] = r.Intn(7) - 3
		default:
			x[i] = r.Intn(2*bound+1) - bound
		}
	}
	return x
}

// randomVectors returns n vectors whose components are at most bound.
func randomVectors(r *rand.Rand, n, components, bound int) [][]int {
	v := make([][]int, n)
	for t := range v {
		v[t] = make([]int, components)
		for i := range v[t] {
			v[t][i] = r.Intn(2*bound+1) - bound
		}
	}
	return v
}

// same returns so many vectors with the only component n.
func same(count, n int) [][]int {
	v := make([][]int, count)
	for t := range v {
		v[t] = []int{n}
	}
	return v
}

// tooLong returns more vectors than a list may have, of which the first one is not even a vector.
func tooLong() [][]int {
	v := same(api.MaxVectors+1, 1)
	v[0] = nil
	return v
}

// noVectors returns lists that do not consist of vectors with the same number of components.
func noVectors() [][][]int {
	const most = api.MaxComponent
	return [][][]int{
		{nil}, {{}}, {{}, {}}, {{1}, {}}, {{1}, nil}, {{1}, {1, 2}}, {{1, 2}, {3, 4}, {5}}, {make([]int, api.MaxVector+1)},
		{{most + 1}}, {{0, -most - 1}}, {{1}, {most + 1}}, {{1, 2}, {3, -most - 1}}, {{math.MaxInt}}, {{math.MinInt}}, {{1}, {2}, {math.MinInt}},
	}
}

// cloneVectors returns a copy of a list of vectors and of each of them.
func cloneVectors(v [][]int) [][]int {
	list := slices.Clone(v)
	for t, x := range v {
		list[t] = slices.Clone(x)
	}
	return list
}

// equalVectors compares two lists of vectors.
func equalVectors(a, b [][]int) bool { return slices.EqualFunc(a, b, slices.Equal[[]int]) }

// expectNumber checks that there is no error, and that got is the number want.
func expectNumber(t *testing.T, what string, got int, e api.Errno, want int) {
	t.Helper()
	if e != api.OK || got != want {
		t.Errorf("%s: %d and error %d, not %d", what, got, e, want)
	}
}

// expectList checks that there is no error, and that got is the list want.
func expectList(t *testing.T, what string, got []int, e api.Errno, want ...int) {
	t.Helper()
	if e != api.OK || !slices.Equal(got, want) {
		t.Errorf("%s: %v and error %d, not %v", what, got, e, want)
	}
}

// expectVectors checks that there is no error, and that got is the list of vectors want.
func expectVectors(t *testing.T, what string, got [][]int, e api.Errno, want [][]int) {
	t.Helper()
	if e != api.OK || !equalVectors(got, want) {
		t.Errorf("%s: %v and error %d, not %v", what, short(got), e, short(want))
	}
}

// short returns the beginning of a list.
func short(v [][]int) [][]int { return v[:min(len(v), 10)] }

// expectError checks that there is the error want, with a zero value beside it.
func expectError(t *testing.T, what string, zero bool, e, want api.Errno) {
	t.Helper()
	if e != want || !zero {
		t.Errorf("%s: error %d, not %d; zero: %t", what, e, want, zero)
	}
}

// spoil overwrites all memory of a list, up to its capacity.
func spoil(x []int) {
	x = x[:cap(x)]
	for i := range x {
		x[i] = 12345
	}
}

// spoilVectors overwrites all memory of a list of vectors.
func spoilVectors(v [][]int) {
	for _, x := range v {
		spoil(x)
	}
	v = v[:cap(v)]
	for t := range v {
		v[t] = nil
	}
}
