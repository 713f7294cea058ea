// Tests of P4.3: Weight, Best, Spans.

package model_test

import (
	"math"
	"math/big"
	"math/rand"
	"slices"
	"strconv"
	"testing"

	"earshot/api"
	"earshot/model"
)

// weightOf returns the weight of a path, which must not fail.
func weightOf(t *testing.T, m api.Model, o, path []int) *big.Rat {
	t.Helper()
	got, e := model.Weight(m, o, path)
	if e != api.OK {
		t.Fatalf("Weight of %v: error %d", path, e)
	}
	return valueOf(got)
}

func TestPathExamples(t *testing.T) {
	m := left(t, 2, 2)
	path, weight, e := model.Best(m, []int{0, 1, 0})
	if e != api.OK || !slices.Equal(path, []int{0, 0, 1}) {
		t.Errorf("Best: %v and error %d", path, e)
	}
	expect(t, "Best", weight, rat(t, "1/64"))
	if got := weightOf(t, m, []int{0, 1, 0}, []int{0, 1, 1}); got.Cmp(rat(t, "1/64")) != 0 {
		t.Errorf("Weight: %s", got)
	}
	for _, path := range [][]int{{0, 0, 0}, {1, 1, 1}, {0, 1, 0}} {
		if got := weightOf(t, m, []int{0, 1, 0}, path); got.Sign() != 0 {
			t.Errorf("Weight of %v: %s", path, got)
		}
	}
	if got := weightOf(t, m, nil, nil); got.Sign() != 0 {
		t.Errorf("Weight of an empty path: %s", got)
	}
	for _, o := range [][]int{{0}, nil, {}} {
		path, weight, e = model.Best(m, o)
		expectError(t, "Best", len(path) == 0 && isZero(weight), e, api.ErrNone)
	}
}

// TestPathDefinition compares with all paths.
func TestPathDefinition(t *testing.T) {
	for _, x := range examples(7, 150) {
		want := exactOf(x.m)
		for _, o := range x.data {
			for _, path := range paths(len(x.m.Start), len(o)) {
				if got := weightOf(t, x.m, o, path); got.Cmp(want.weight(o, path)) != 0 {
					t.Errorf("Weight of %v: %s, not %s", path, got, want.weight(o, path))
				}
			}
			path, weight, e := model.Best(x.m, o)
			best, greatest := want.best(o)
			if best == nil {
				expectError(t, "Best", len(path) == 0 && isZero(weight), e, api.ErrNone)
				continue
			}
			if e != api.OK || !slices.Equal(path, best) {
				t.Errorf("Best: %v and error %d, not %v", path, e, best)
			}
			expect(t, "Best", weight, greatest)
			if greatest.Cmp(likelihood(t, x.m, o)) > 0 {
				t.Errorf("the best path of %v weighs more than all", o)
			}
		}
	}
}

// alike returns a model in which all paths with the same number of frames have the same weight.
func alike(t *testing.T, states int) api.Model {
	t.Helper()
	var m api.Model
	for range states {
		m.Start = append(m.Start, f(t, "1/"+strconv.Itoa(states)))
		m.End = append(m.End, f(t, "1/"+strconv.Itoa(states+1)))
		m.Say = append(m.Say, fs(t, "1/2", "1/2"))
	}
	for range states {
		m.Move = append(m.Move, slices.Clone(m.End))
	}
	return m
}

// TestBestOfSeveral checks that the first one of several best paths is taken.
func TestBestOfSeveral(t *testing.T) {
	for states := 1; states <= 3; states++ {
		for n := 1; n <= 4; n++ {
			path, _, e := model.Best(alike(t, states), make([]int, n))
			if e != api.OK || !slices.Equal(path, make([]int, n)) {
				t.Errorf("%d states: %v and error %d", states, path, e)
			}
		}
	}
	// 0 1 and 1 0 are equally good, and so are 0 1 and 0 2 below.
	swapping := api.Model{Start: fs(t, "1/2", "1/2"), Move: [][]api.Frac{fs(t, "0", "1/2"), fs(t, "1/2", "0")}, End: fs(t, "1/2", "1/2"), Say: [][]api.Frac{fs(t, "1", "0"), fs(t, "1", "0")}}
	forking := api.Model{
		Start: fs(t, "1/2", "1/2", "0"),
		Move:  [][]api.Frac{fs(t, "0", "1/2", "1/4"), fs(t, "1/2", "0", "0"), fs(t, "0", "0", "0")},
		End:   fs(t, "1/4", "1/2", "1"),
		Say:   [][]api.Frac{fs(t, "1", "0"), fs(t, "1/2", "1/2"), fs(t, "1/2", "1/2")},
	}
	for _, c := range []struct {
		m       api.Model
		o, path []int
		weight  string
	}{
		{swapping, []int{0}, []int{0}, "1/4"}, {swapping, []int{0, 0}, []int{0, 1}, "1/8"}, {swapping, []int{0, 0, 0}, []int{0, 1, 0}, "1/16"},
		{forking, []int{0}, []int{0}, "1/8"}, {forking, []int{1}, []int{1}, "1/8"}, {forking, []int{0, 0}, []int{0, 1}, "1/16"}, {forking, []int{1, 0}, []int{1, 0}, "1/32"}, {forking, []int{0, 1, 0}, []int{0, 1, 0}, "1/64"},
	} {
		path, weight, e := model.Best(c.m, c.o)
		if e != api.OK || !slices.Equal(path, c.path) {
			t.Errorf("Best of %v: %v and error %d", c.o, path, e)
		}
		expect(t, "Best", weight, rat(t, c.weight))
	}
}

// TestLongBest checks the first one of many best paths of a long recording.
func TestLongBest(t *testing.T) {
	m, o := left(t, api.MaxStates, api.MaxSymbols), randomRecording(rand.New(rand.NewSource(10)), api.MaxFrames, api.MaxSymbols)
	want := make([]int, api.MaxFrames-api.MaxStates)
	for i := range api.MaxStates {
		want = append(want, i)
	}
	path, weight, e := model.Best(m, o)
	if e != api.OK || !slices.Equal(path, want) {
		t.Errorf("%v and error %d", path, e)
	}
	all := new(big.Rat).SetInt(new(big.Int).Binomial(api.MaxFrames-1, api.MaxStates-1))
	if product(valueOf(weight), all).Cmp(likelihood(t, m, o)) != 0 {
		t.Errorf("%v", weight)
	}
}

func TestSpans(t *testing.T) {
	for _, c := range []struct {
		path []int
		want []api.Span
	}{
		{nil, nil}, {[]int{}, nil}, {[]int{7}, []api.Span{{State: 7, From: 0, To: 1}}},
		{[]int{2, 2, 5, 5, 5, 2}, []api.Span{{State: 2, From: 0, To: 2}, {State: 5, From: 2, To: 5}, {State: 2, From: 5, To: 6}}},
		{[]int{0, 0, 0}, []api.Span{{State: 0, From: 0, To: 3}}},
		{[]int{0, 1, 0}, []api.Span{{State: 0, From: 0, To: 1}, {State: 1, From: 1, To: 2}, {State: 0, From: 2, To: 3}}},
		{[]int{math.MinInt, math.MinInt, math.MaxInt}, []api.Span{{State: math.MinInt, From: 0, To: 2}, {State: math.MaxInt, From: 2, To: 3}}},
		{[]int{-1, 100, 100}, []api.Span{{State: -1, From: 0, To: 1}, {State: 100, From: 1, To: 3}}},
	} {
		if got := model.Spans(c.path); !slices.Equal(got, c.want) {
			t.Errorf("%v: %v, not %v", c.path, got, c.want)
		}
	}
	if got := model.Spans(make([]int, 5000)); len(got) != 1 || got[0].To != 5000 {
		t.Errorf("%v", got)
	}
}

func TestPathErrors(t *testing.T) {
	expectRefusals(t, func(m api.Model, o []int, want api.Errno) {
		t.Helper()
		weight, e := model.Weight(m, o, make([]int, len(o)))
		expectError(t, "Weight", isZero(weight), e, want)
		weight, e = model.Weight(m, o, []int{-1})
		expectError(t, "Weight of no path", isZero(weight), e, want)
		path, weight, e := model.Best(m, o)
		expectError(t, "Best", len(path) == 0 && isZero(weight), e, want)
	})
	m, o := left(t, 2, 2), []int{0, 1}
	for _, path := range [][]int{nil, {0}, {0, 0, 1}, make([]int, 2000), {0, 2}, {2, 0}, {-1, 0}, {0, math.MaxInt}, {math.MinInt, 1}} {
		weight, e := model.Weight(m, o, path)
		expectError(t, "Weight", isZero(weight), e, api.ErrArg)
	}
	weight, e := model.Weight(m, nil, []int{0})
	expectError(t, "Weight of an empty recording", isZero(weight), e, api.ErrArg)
}
