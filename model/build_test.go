// Tests of P4.7: Left, Join, Mix.

package model_test

import (
	"math/big"
	"math/rand"
	"testing"

	"earshot/api"
	"earshot/frac"
	"earshot/model"
)

// joined returns the model that goes through models one after the other, state by state as the section says.
func joined(models ...api.Model) exact {
	all, last := together(models), len(models)-1
	first, states := 0, len(models[0].Start)
	for n, m := range models {
		x := exactOf(m)
		for i := range x.start {
			if n > 0 {
				all.start[first+i] = new(big.Rat)
			}
			if n < last {
				for j, start := range exactOf(models[n+1]).start {
					all.move[first+i][states+j] = product(x.end[i], start)
				}
				all.end[first+i] = new(big.Rat)
			}
		}
		first = states
		if n < last {
			states += len(models[n+1].Start)
		}
	}
	return all
}

// mixed returns the model that chooses one of several models.
func mixed(weights []api.Frac, models ...api.Model) exact {
	all, first := together(models), 0
	for n, m := range models {
		for i := range m.Start {
			all.start[first+i] = product(valueOf(weights[n]), valueOf(m.Start[i]))
		}
		first += len(m.Start)
	}
	return all
}

// together returns the states of models, one after the other, with all weights of the models.
func together(models []api.Model) exact {
	states := 0
	for _, m := range models {
		states += len(m.Start)
	}
	all, first := blank(states, len(models[0].Say[0])), 0
	for _, m := range models {
		x := exactOf(m)
		for i := range x.start {
			all.start[first+i], all.end[first+i], all.say[first+i] = x.start[i], x.end[i], x.say[i]
			copy(all.move[first+i][first:], x.move[i])
		}
		first += len(x.start)
	}
	return all
}

func TestLeft(t *testing.T) {
	expectModel(t, "Left(2, 2)", left(t, 2, 2), exact{rats(t, "1", "0"), [][]*big.Rat{rats(t, "1/2", "1/2"), rats(t, "0", "1/2")}, rats(t, "0", "1/2"), [][]*big.Rat{rats(t, "1/2", "1/2"), rats(t, "1/2", "1/2")}})
	expectModel(t, "Left(1, 1)", left(t, 1, 1), exact{rats(t, "1"), [][]*big.Rat{rats(t, "1/2")}, rats(t, "1/2"), [][]*big.Rat{rats(t, "1")}})
	expectModel(t, "Left(1, 3)", left(t, 1, 3), exact{rats(t, "1"), [][]*big.Rat{rats(t, "1/2")}, rats(t, "1/2"), [][]*big.Rat{rats(t, "1/3", "1/3", "1/3")}})
	for _, states := range edgeInts() {
		for _, symbols := range edgeInts() {
			m, e := model.Left(states, symbols)
			if states < 1 || states > 40 || symbols < 1 || symbols > 64 {
				expectError(t, "Left", isZeroModel(m), e, api.ErrArg)
				continue
			}
			if e != api.OK {
				t.Fatalf("Left(%d, %d): error %d", states, symbols, e)
			}
			expectValid(t, "Left", m)
			want := blank(states, symbols)
			want.start[0].SetInt64(1)
			for i := range states {
				want.move[i][i].SetFrac64(1, 2)
				if i+1 < states {
					want.move[i][i+1].SetFrac64(1, 2)
				}
				for k := range symbols {
					want.say[i][k].SetFrac64(1, int64(symbols))
				}
			}
			want.end[states-1].SetFrac64(1, 2)
			expectModel(t, "Left", m, want)
		}
	}
}

func TestBuildExamples(t *testing.T) {
	m, e := model.Join(one(t), one(t))
	if e != api.OK {
		t.Fatalf("error %d", e)
	}
	expectModel(t, "Join", m, exact{rats(t, "1", "0"), [][]*big.Rat{rats(t, "1/2", "1/2"), rats(t, "0", "1/2")}, rats(t, "0", "1/2"), [][]*big.Rat{rats(t, "1/3", "2/3"), rats(t, "1/3", "2/3")}})
	if got := likelihood(t, m, []int{0, 1}); got.Cmp(rat(t, "1/18")) != 0 {
		t.Errorf("%s", got)
	}
	m, e = model.Mix(fs(t, "1/2", "1/2"), one(t), left(t, 2, 2))
	if e != api.OK {
		t.Fatalf("error %d", e)
	}
	if got := likelihood(t, m, []int{0, 1}); got.Cmp(rat(t, "17/288")) != 0 {
		t.Errorf("%s", got)
	}
}

// randomModels returns up to four models with the same number of symbols.
func randomModels(r *rand.Rand, symbols, zeros int) []api.Model {
	var list []api.Model
	for range 1 + r.Intn(4) {
		list = append(list, randomModel(r, 1+r.Intn(3), symbols, zeros))
	}
	return list
}

// TestBuildDefinition compares with the definitions, state by state.
func TestBuildDefinition(t *testing.T) {
	r := rand.New(rand.NewSource(26))
	for i := range 200 {
		models := randomModels(r, 1+r.Intn(3), []int{0, 3, 6}[i%3])
		got, e := model.Join(models...)
		if e != api.OK {
			t.Fatalf("error %d", e)
		}
		expectModel(t, "Join", got, joined(models...))
		expectValid(t, "Join", got)
		weights := randomDistribution(r, len(models), 3)
		got, e = model.Mix(weights, models...)
		if e != api.OK {
			t.Fatalf("error %d", e)
		}
		expectModel(t, "Mix", got, mixed(weights, models...))
		expectValid(t, "Mix", got)
	}
}

// TestBuildLikelihoods checks the likelihoods for models that are made of two others.
func TestBuildLikelihoods(t *testing.T) {
	r := rand.New(rand.NewSource(27))
	for i := range 60 {
		symbols := 1 + r.Intn(3)
		a, b := randomModel(r, 1+r.Intn(4), symbols, []int{0, 4}[i%2]), randomModel(r, 1+r.Intn(4), symbols, 3)
		o := randomRecording(r, r.Intn(8), symbols)
		m, e := model.Join(a, b)
		if e != api.OK {
			t.Fatalf("error %d", e)
		}
		cuts := new(big.Rat)
		for cut := range len(o) + 1 {
			add(cuts, product(likelihood(t, a, o[:cut]), likelihood(t, b, o[cut:])))
		}
		if got := likelihood(t, m, o); got.Cmp(cuts) != 0 {
			t.Errorf("Join: %s, not %s", got, cuts)
		}
		weights := randomDistribution(r, 2, 2)
		m, e = model.Mix(weights, a, b)
		if e != api.OK {
			t.Fatalf("error %d", e)
		}
		sum := product(valueOf(weights[0]), likelihood(t, a, o))
		add(sum, product(valueOf(weights[1]), likelihood(t, b, o)))
		if got := likelihood(t, m, o); got.Cmp(sum) != 0 {
			t.Errorf("Mix: %s, not %s", got, sum)
		}
	}
}

// TestBuildBounds checks the greatest numbers of states and models.
func TestBuildBounds(t *testing.T) {
	small, large := left(t, 1, api.MaxSymbols), left(t, api.MaxStates, api.MaxSymbols)
	many := make([]api.Model, api.MaxStates)
	weights := make([]api.Frac, api.MaxStates)
	for i := range many {
		many[i], weights[i] = small, f(t, "1/40")
	}
	m, e := model.Join(many...)
	if e != api.OK {
		t.Fatalf("error %d", e)
	}
	expectModel(t, "Join of 40 models", m, exactOf(large))
	m, e = model.Mix(weights, many...)
	if e != api.OK {
		t.Fatalf("error %d", e)
	}
	expectModel(t, "Mix of 40 models", m, mixed(weights, many...))
	m, e = model.Join(large)
	if e != api.OK {
		t.Fatalf("error %d", e)
	}
	expectModel(t, "Join of a large model", m, exactOf(large))
	m, e = model.Mix(fs(t, "1"), large)
	if e != api.OK {
		t.Fatalf("error %d", e)
	}
	expectModel(t, "Mix of a large model", m, exactOf(large))
	for _, models := range [][]api.Model{{large, small}, {small, large}, append(many, small), {large, large, large}} {
		weights := make([]api.Frac, len(models))
		weights[0] = frac.Of(1)
		m, e := model.Join(models...)
		expectError(t, "Join of too many states", isZeroModel(m), e, api.ErrLong)
		m, e = model.Mix(weights, models...)
		expectError(t, "Mix of too many states", isZeroModel(m), e, api.ErrLong)
	}
}

// TestBuildErrors checks the errors and their order.
func TestBuildErrors(t *testing.T) {
	r := rand.New(rand.NewSource(28))
	good, other, large := randomModel(r, 2, 2, 0), randomModel(r, 2, 3, 0), left(t, api.MaxStates, 2)
	check := func(want api.Errno, weights []api.Frac, models ...api.Model) {
		t.Helper()
		m, e := model.Join(models...)
		expectError(t, "Join", isZeroModel(m), e, want)
		m, e = model.Mix(weights, models...)
		expectError(t, "Mix", isZeroModel(m), e, want)
	}
	check(api.ErrArg, nil)
	check(api.ErrArg, fs(t, "1/2", "1/2"), good, other)
	check(api.ErrArg, fs(t, "1/2", "1/4", "1/4"), good, good, other)
	check(api.ErrArg, fs(t, "1/2", "1/2"), large, other)
	for _, wrong := range append(wrongLengths(good), wrongWeights(good)...) {
		check(api.ErrArg, fs(t, "1"), wrong)
		check(api.ErrArg, fs(t, "1/2", "1/2"), good, wrong)
		check(api.ErrArg, fs(t, "1/2", "1/4", "1/4"), wrong, large, large)
		check(api.ErrLong, fs(t, "1/2", "1/2"), wrong, flat(api.MaxStates+1, 2))
	}
	for _, long := range []api.Model{flat(api.MaxStates+1, 2), flat(1, api.MaxSymbols+1)} {
		check(api.ErrLong, nil, long)
		check(api.ErrLong, nil, good, long)
		check(api.ErrLong, nil, other, good, long)
	}
	for _, weights := range [][]api.Frac{nil, fs(t, "1"), fs(t, "1/2", "1/4"), fs(t, "1/2", "1/2", "0"), fs(t, "3/2", "-1/2"), fs(t, "0", "0"), fs(t, "1", "1")} {
		m, e := model.Mix(weights, good, good)
		expectError(t, "Mix with wrong weights", isZeroModel(m), e, api.ErrArg)
		m, e = model.Mix(weights, large, large)
		expectError(t, "Mix of too many states with wrong weights", isZeroModel(m), e, api.ErrArg)
	}
	m, e := model.Mix(fs(t, "1"))
	expectError(t, "Mix of no models", isZeroModel(m), e, api.ErrArg)
}
