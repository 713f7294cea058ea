package model_test

import (
	"math"
	"math/rand"
	"slices"
	"testing"

	"earshot/api"
)

// expectRefusals calls check with models and recordings that are refused, and with the error that they have (rule R1).
func expectRefusals(t *testing.T, check func(m api.Model, o []int, want api.Errno)) {
	t.Helper()
	r := rand.New(rand.NewSource(30))
	good := randomModel(r, 2, 2, 0)
	long := make([]int, api.MaxFrames+1)
	wrong := slices.Concat([]api.Model{{}, flat(1, 0)}, wrongLengths(good), wrongWeights(good))
	for _, m := range wrong {
		check(m, nil, api.ErrArg)
		check(m, []int{0, 1}, api.ErrArg)
		check(m, []int{-1}, api.ErrArg)
		check(m, long, api.ErrLong)
	}
	for _, m := range []api.Model{flat(api.MaxStates+1, 1), flat(1, api.MaxSymbols+1), {Start: make([]api.Frac, api.MaxStates+1)}, {Say: [][]api.Frac{make([]api.Frac, api.MaxSymbols+1)}}} {
		check(m, nil, api.ErrLong)
		check(m, []int{-1}, api.ErrLong)
		check(m, long, api.ErrLong)
	}
	check(good, long, api.ErrLong)
	check(good, append([]int{-1}, long...), api.ErrLong)
	for _, k := range []int{-1, 2, 3, 64, math.MaxInt, math.MinInt} {
		for _, o := range [][]int{{k}, {k, 0}, {0, 1, k}, append(make([]int, api.MaxFrames-1), k)} {
			check(good, o, api.ErrArg)
		}
	}
	check(flat(1, 1), []int{1}, api.ErrArg)
	check(flat(api.MaxStates, api.MaxSymbols), []int{api.MaxSymbols}, api.ErrArg)
}
