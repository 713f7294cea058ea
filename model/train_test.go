// Tests of P4.6: Reestimate, Train, Coarsen.

package model_test

import (
	"math"
	"math/big"
	"math/rand"
	"slices"
	"testing"

	"earshot/api"
	"earshot/frac"
	"earshot/model"
)

// expectValid checks that a model is valid.
func expectValid(t *testing.T, what string, m api.Model) {
	t.Helper()
	if e := model.Check(m); e != api.OK {
		t.Errorf("%s is not valid: error %d", what, e)
	}
}

// randomCounts returns counts for so many states and symbols, with rows whose sum is 0.
func randomCounts(r *rand.Rand, states, symbols int) api.Counts {
	row := func(n int) []api.Frac {
		list := make([]api.Frac, n)
		if r.Intn(3) > 0 {
			for i := range list {
				list[i] = fraction(r, r.Intn(4), 1+r.Intn(5))
			}
		}
		return list
	}
	c := api.Counts{Start: row(states), End: row(states), Used: r.Intn(3) - 1, Unused: r.Intn(3) - 1}
	for range states {
		c.Move, c.Say = append(c.Move, row(states)), append(c.Say, row(symbols))
	}
	return c
}

func TestReestimateExamples(t *testing.T) {
	c, e := model.Count(one(t), []int{0, 1}, []int{1})
	if e != api.OK {
		t.Fatalf("error %d", e)
	}
	got, e := model.Reestimate(one(t), c)
	if e != api.OK {
		t.Fatalf("error %d", e)
	}
	expectModel(t, "Reestimate", got, exact{rats(t, "1"), [][]*big.Rat{rats(t, "1/3")}, rats(t, "2/3"), [][]*big.Rat{rats(t, "1/3", "2/3")}})
	// No state of the second model is counted to end, and the second one is not counted at all: what has the sum 0 stays.
	m := left(t, 2, 2)
	c = api.Counts{Start: fs(t, "0", "0"), Move: [][]api.Frac{fs(t, "0", "3"), fs(t, "0", "0")}, End: fs(t, "1", "0"), Say: [][]api.Frac{fs(t, "0", "1/7"), fs(t, "0", "0")}, Used: -5}
	got, e = model.Reestimate(m, c)
	if e != api.OK {
		t.Fatalf("error %d", e)
	}
	expectModel(t, "Reestimate", got, exact{rats(t, "1", "0"), [][]*big.Rat{rats(t, "0", "3/4"), rats(t, "0", "1/2")}, rats(t, "1/4", "1/2"), [][]*big.Rat{rats(t, "0", "1"), rats(t, "1/2", "1/2")}})
}

// TestReestimateDefinition compares with the definition, for any counts.
func TestReestimateDefinition(t *testing.T) {
	r := rand.New(rand.NewSource(19))
	for i := range 300 {
		states, symbols := 1+r.Intn(4), 1+r.Intn(4)
		if i == 0 {
			states, symbols = api.MaxStates, api.MaxSymbols
		}
		m, c := randomModel(r, states, symbols, 4), randomCounts(r, states, symbols)
		got, e := model.Reestimate(m, c)
		if e != api.OK {
			t.Fatalf("error %d", e)
		}
		expectModel(t, "Reestimate", got, exactOf(m).reestimate(exactOf(modelOf(c))))
		expectValid(t, "Reestimate", got)
	}
}

// expectBetter checks that reestimation of m makes better, which is not less likely for the data, and more likely if it is another model.
func expectBetter(t *testing.T, m, better api.Model, data [][]int) {
	t.Helper()
	for _, o := range data {
		if likelihood(t, m, o).Sign() > 0 && likelihood(t, better, o).Sign() == 0 {
			t.Errorf("%v has no likelihood any more", o)
		}
	}
	before, after := rat(t, "1"), rat(t, "1")
	for _, o := range data {
		if x := likelihood(t, m, o); x.Sign() > 0 {
			before.Mul(before, x)
			after.Mul(after, likelihood(t, better, o))
		}
	}
	if order := after.Cmp(before); order < 0 || order == 0 != model.Equal(m, better) {
		t.Errorf("the likelihood of %v changes from %s to %s", data, before.FloatString(9), after.FloatString(9))
	}
}

// TestNeverLessLikely checks that reestimation from the counts of data does not lower their likelihood.
func TestNeverLessLikely(t *testing.T) {
	for _, x := range examples(20, 150) {
		c, e := model.Count(x.m, x.data...)
		if e != api.OK {
			t.Fatalf("error %d", e)
		}
		got, e := model.Reestimate(x.m, c)
		if e != api.OK {
			t.Fatalf("error %d", e)
		}
		expectValid(t, "Reestimate", got)
		expectBetter(t, x.m, got, x.data)
	}
	r := rand.New(rand.NewSource(21))
	m, data := randomModel(r, 3, 4, 0), [][]int{randomRecording(r, 12, 4), randomRecording(r, 15, 4), randomRecording(r, 9, 4)}
	for range 2 {
		better, e := model.Train(m, 1, 0, data...)
		if e != api.OK {
			t.Fatalf("error %d", e)
		}
		expectBetter(t, m, better, data)
		m, e = model.Coarsen(better, 100)
		if e != api.OK {
			t.Fatalf("error %d", e)
		}
	}
}

// TestStays checks a model that is already the best one for its data.
func TestStays(t *testing.T) {
	m := api.Model{Start: fs(t, "1"), Move: [][]api.Frac{fs(t, "1/2")}, End: fs(t, "1/2"), Say: [][]api.Frac{fs(t, "1/4", "3/4")}}
	for rounds := range 21 {
		got, e := model.Train(m, rounds, 0, []int{1, 0}, []int{1, 1}, nil, []int{})
		if e != api.OK || !model.Equal(got, m) {
			t.Errorf("%d rounds: %v and error %d", rounds, got, e)
		}
	}
}

func TestCoarsenExamples(t *testing.T) {
	m := api.Model{
		Start: fs(t, "1/2", "1/2"),
		Move:  [][]api.Frac{fs(t, "1/3", "1/3"), fs(t, "1/5", "2/5")},
		End:   fs(t, "1/3", "2/5"),
		Say:   [][]api.Frac{fs(t, "0", "5/8", "3/8"), fs(t, "1/10", "1/10", "4/5")},
	}
	for _, c := range []struct {
		d          int
		start, say []string
		leave      [2][]string
	}{
		{1, []string{"1", "0"}, []string{"0", "1", "0"}, [2][]string{{"1", "0", "0"}, {"0", "1", "0"}}},
		{2, []string{"1/2", "1/2"}, []string{"0", "1", "0"}, [2][]string{{"1", "0", "0"}, {"0", "1", "0"}}},
		{3, []string{"2/3", "1/3"}, []string{"0", "2/3", "1/3"}, [2][]string{{"1/3", "1/3", "1/3"}, {"0", "2/3", "1/3"}}},
		{4, []string{"1/2", "1/2"}, []string{"0", "3/4", "1/4"}, [2][]string{{"1/2", "1/4", "1/4"}, {"0", "3/4", "1/4"}}},
	} {
		got, e := model.Coarsen(m, c.d)
		if e != api.OK || len(got.Move) != 2 || len(got.Say) != 2 || len(got.End) != 2 {
			t.Fatalf("error %d", e)
		}
		expectRow(t, "Start", got.Start, rats(t, c.start...))
		expectRow(t, "Say", got.Say[0], rats(t, c.say...))
		for i, leave := range c.leave {
			expectRow(t, "Move and End", append(slices.Clone(got.Move[i]), got.End[i]), rats(t, leave...))
		}
	}
	got, e := model.Coarsen(m, 3*5*8)
	if e != api.OK {
		t.Fatalf("error %d", e)
	}
	expectModel(t, "Coarsen to a common denominator", got, exactOf(m))
	// The greatest weight is the greatest one before it is rounded, and the end is the greatest one.
	m = api.Model{Start: fs(t, "13/20", "7/20"), Move: [][]api.Frac{fs(t, "3/10", "3/10"), fs(t, "0", "0")}, End: fs(t, "2/5", "1"), Say: [][]api.Frac{fs(t, "49/100", "51/100"), fs(t, "1", "0")}}
	got, e = model.Coarsen(m, 3)
	if e != api.OK {
		t.Fatalf("error %d", e)
	}
	expectModel(t, "Coarsen", got, exact{rats(t, "2/3", "1/3"), [][]*big.Rat{rats(t, "0", "0"), rats(t, "0", "0")}, rats(t, "1", "1"), [][]*big.Rat{rats(t, "1/3", "2/3"), rats(t, "1", "0")}})
}

// TestCoarsenDefinition compares with the definition.
func TestCoarsenDefinition(t *testing.T) {
	r := rand.New(rand.NewSource(22))
	for i := range 300 {
		states, symbols := 1+r.Intn(4), 1+r.Intn(6)
		if i == 0 {
			states, symbols = api.MaxStates, api.MaxSymbols
		}
		m := randomModel(r, states, symbols, []int{0, 5}[i%2])
		for _, d := range []int{1, 2, 3, 7, 100, math.MaxInt} {
			got, e := model.Coarsen(m, d)
			if e != api.OK {
				t.Fatalf("error %d", e)
			}
			expectModel(t, "Coarsen", got, exactOf(m).coarsen(int64(d)))
			expectValid(t, "Coarsen", got)
		}
	}
}

// TestTrainDefinition compares with the definition.
func TestTrainDefinition(t *testing.T) {
	for i, x := range examples(23, 60) {
		rounds, d := i%3, []int{0, 10, 3, 1}[i%4]
		got, e := model.Train(x.m, rounds, d, x.data...)
		if e != api.OK {
			t.Fatalf("error %d", e)
		}
		expectModel(t, "Train", got, exactOf(x.m).train(rounds, int64(d), x.data))
		expectValid(t, "Train", got)
	}
}

// TestTrainBounds checks the least and the greatest number of rounds, and denominators.
func TestTrainBounds(t *testing.T) {
	r := rand.New(rand.NewSource(24))
	m := randomModel(r, 3, 3, 0)
	data := [][]int{{0, 1, 2, 2}, {0, 0, 2}, {1}}
	got, e := model.Train(m, 0, 1, data...)
	if e != api.OK {
		t.Fatalf("error %d", e)
	}
	expectModel(t, "Train in no rounds", got, exactOf(m))
	got, e = model.Train(m, 20, 50, data...)
	if e != api.OK {
		t.Fatalf("error %d", e)
	}
	expectValid(t, "Train in 20 rounds", got)
	want := m
	for range 20 {
		c, e := model.Count(want, data...)
		if e != api.OK {
			t.Fatalf("error %d", e)
		}
		want, _ = model.Reestimate(want, c)
		want, _ = model.Coarsen(want, 50)
	}
	expectModel(t, "Train in 20 rounds", got, exactOf(want))
	got, e = model.Train(m, 3, 0)
	if e != api.OK {
		t.Fatalf("error %d", e)
	}
	expectModel(t, "Train without data", got, exactOf(m))
	got, e = model.Train(left(t, api.MaxStates, api.MaxSymbols), 1, math.MaxInt, randomRecording(r, 60, api.MaxSymbols))
	if e != api.OK {
		t.Fatalf("error %d", e)
	}
	expectValid(t, "Train of a large model", got)
}

func TestTrainErrors(t *testing.T) {
	expectRefusals(t, func(m api.Model, o []int, want api.Errno) {
		t.Helper()
		for _, rounds := range []int{-1, 0, 1, 21} {
			got, e := model.Train(m, rounds, rounds, o)
			expectError(t, "Train", isZeroModel(got), e, want)
			got, e = model.Train(m, rounds, 0, nil, o, []int{0})
			expectError(t, "Train", isZeroModel(got), e, want)
		}
	})
	for _, c := range []struct{ rounds, d int }{{-1, 0}, {21, 0}, {math.MaxInt, 5}, {math.MinInt, 5}, {0, -1}, {1, -1}, {20, math.MinInt}, {21, -1}} {
		got, e := model.Train(one(t), c.rounds, c.d, []int{0})
		expectError(t, "Train", isZeroModel(got), e, api.ErrArg)
		got, e = model.Train(one(t), c.rounds, c.d, make([][]int, api.MaxData+1)...)
		expectError(t, "Train with too many recordings", isZeroModel(got), e, api.ErrLong)
	}
	got, e := model.Train(one(t), 1, 0, make([][]int, api.MaxData)...)
	if e != api.OK {
		t.Fatalf("error %d", e)
	}
	expectModel(t, "Train with empty recordings", got, exactOf(one(t)))
}

func TestReestimateErrors(t *testing.T) {
	r := rand.New(rand.NewSource(25))
	m := randomModel(r, 2, 2, 0)
	for _, wrong := range wrongLengths(m) {
		got, e := model.Reestimate(m, countsOf(wrong))
		expectError(t, "Reestimate with counts of wrong lengths", isZeroModel(got), e, api.ErrArg)
		got, e = model.Reestimate(wrong, countsOf(wrong))
		expectError(t, "Reestimate", isZeroModel(got), e, api.ErrArg)
		got, e = model.Coarsen(wrong, 3)
		expectError(t, "Coarsen", isZeroModel(got), e, api.ErrArg)
	}
	for _, wrong := range wrongWeights(m) {
		got, e := model.Reestimate(wrong, countsOf(m))
		expectError(t, "Reestimate", isZeroModel(got), e, api.ErrArg)
		got, e = model.Coarsen(wrong, 3)
		expectError(t, "Coarsen", isZeroModel(got), e, api.ErrArg)
	}
	for _, row := range rowsOf(m) {
		for i, a := range row {
			row[i] = frac.Neg(a)
			got, e := model.Reestimate(randomModel(r, 2, 2, 0), countsOf(m))
			expectError(t, "Reestimate with negative counts", isZeroModel(got), e, api.ErrArg)
			row[i] = a
		}
	}
	for _, long := range []api.Model{flat(api.MaxStates+1, 1), flat(1, api.MaxSymbols+1), {Start: make([]api.Frac, api.MaxStates+1)}} {
		got, e := model.Reestimate(long, api.Counts{})
		expectError(t, "Reestimate of a long model", isZeroModel(got), e, api.ErrLong)
		got, e = model.Coarsen(long, 0)
		expectError(t, "Coarsen of a long model", isZeroModel(got), e, api.ErrLong)
	}
	got, e := model.Reestimate(one(t), countsOf(flat(api.MaxStates+1, api.MaxSymbols+1)))
	expectError(t, "Reestimate with long counts", isZeroModel(got), e, api.ErrArg)
	for _, d := range []int{0, -1, math.MinInt} {
		got, e := model.Coarsen(m, d)
		expectError(t, "Coarsen", isZeroModel(got), e, api.ErrArg)
	}
}
