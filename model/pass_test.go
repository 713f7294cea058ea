// Tests of P4.2: Forward, Backward, Likelihood.

package model_test

import (
	"math/big"
	"math/rand"
	"testing"

	"earshot/api"
	"earshot/model"
)

func TestPassExamples(t *testing.T) {
	for _, c := range []struct {
		m    api.Model
		o    []int
		want string
	}{
		{one(t), []int{0}, "1/6"}, {one(t), []int{0, 1}, "1/18"}, {one(t), nil, "0"}, {one(t), []int{}, "0"},
		{left(t, 2, 2), []int{0, 1, 0}, "1/32"}, {left(t, 2, 2), []int{0}, "0"}, {left(t, 2, 2), nil, "0"},
	} {
		got, e := model.Likelihood(c.m, c.o)
		if e != api.OK {
			t.Errorf("Likelihood of %v: error %d", c.o, e)
		}
		expect(t, "Likelihood", got, rat(t, c.want))
	}
	forward, e := model.Forward(one(t), []int{0, 1})
	backward, g := model.Backward(one(t), []int{0, 1})
	if e != api.OK || g != api.OK {
		t.Fatalf("errors %d and %d", e, g)
	}
	expectRows(t, "Forward", forward, [][]*big.Rat{rats(t, "1/3"), rats(t, "1/9")})
	expectRows(t, "Backward", backward, [][]*big.Rat{rats(t, "1/6"), rats(t, "1/2")})
	forward, e = model.Forward(left(t, 2, 2), []int{0})
	backward, g = model.Backward(left(t, 2, 2), []int{0})
	if e != api.OK || g != api.OK {
		t.Fatalf("errors %d and %d", e, g)
	}
	expectRows(t, "Forward without a path", forward, [][]*big.Rat{rats(t, "1/2", "0")})
	expectRows(t, "Backward without a path", backward, [][]*big.Rat{rats(t, "0", "1/2")})
}

// TestPassDefinition compares with the sums over all paths.
func TestPassDefinition(t *testing.T) {
	for _, x := range examples(4, 150) {
		for _, o := range x.data {
			want := exactOf(x.m)
			forward, e := model.Forward(x.m, o)
			backward, g := model.Backward(x.m, o)
			got, h := model.Likelihood(x.m, o)
			if e != api.OK || g != api.OK || h != api.OK {
				t.Fatalf("errors %d, %d and %d", e, g, h)
			}
			expectRows(t, "Forward", forward, want.forward(o))
			expectRows(t, "Backward", backward, want.backward(o))
			expect(t, "Likelihood", got, want.likelihood(o))
		}
	}
}

// expectLikelihoodAtFrames checks that the sum of forward weight times backward weight is the likelihood at each frame.
func expectLikelihoodAtFrames(t *testing.T, m api.Model, o []int) {
	t.Helper()
	forward, e := model.Forward(m, o)
	backward, g := model.Backward(m, o)
	if e != api.OK || g != api.OK || len(forward) != len(o) || len(backward) != len(o) {
		t.Fatalf("errors %d and %d, %d and %d rows", e, g, len(forward), len(backward))
	}
	want := likelihood(t, m, o)
	for i := range o {
		sum := new(big.Rat)
		for j, a := range forward[i] {
			add(sum, product(valueOf(a), valueOf(backward[i][j])))
		}
		if sum.Cmp(want) != 0 {
			t.Errorf("frame %d: %s, not %s", i, sum, want)
		}
	}
}

func TestLikelihoodAtFrames(t *testing.T) {
	r := rand.New(rand.NewSource(5))
	for i := range 30 {
		m := randomModel(r, 1+r.Intn(6), 1+r.Intn(5), []int{0, 4, 7}[i%3])
		expectLikelihoodAtFrames(t, m, randomRecording(r, r.Intn(30), len(m.Say[0])))
	}
	expectLikelihoodAtFrames(t, randomModel(r, api.MaxStates, api.MaxSymbols, 0), randomRecording(r, 6, api.MaxSymbols))
	expectLikelihoodAtFrames(t, randomModel(r, api.MaxStates, 2, 8), randomRecording(r, 40, 2))
}

// likelihoodOfLeft is the likelihood of a recording for Left: all paths have the same weight.
func likelihoodOfLeft(states, symbols, frames int) *big.Rat {
	number := new(big.Int).Binomial(int64(frames-1), int64(states-1))
	weight := new(big.Int).Exp(big.NewInt(int64(2*symbols)), big.NewInt(int64(frames)), nil)
	return new(big.Rat).SetFrac(number, weight)
}

// TestLongest checks recordings with as many frames as there may be, and models with as many states and symbols.
func TestLongest(t *testing.T) {
	r := rand.New(rand.NewSource(6))
	m, o := left(t, api.MaxStates, api.MaxSymbols), randomRecording(r, api.MaxFrames, api.MaxSymbols)
	if got, want := likelihood(t, m, o), likelihoodOfLeft(api.MaxStates, api.MaxSymbols, api.MaxFrames); got.Cmp(want) != 0 {
		t.Errorf("%s, not %s", got, want)
	}
	if got := likelihood(t, m, o[:api.MaxStates-1]); got.Sign() != 0 {
		t.Errorf("no path has so few frames: %s", got)
	}
	if got, want := likelihood(t, m, o[:api.MaxStates]), likelihoodOfLeft(api.MaxStates, api.MaxSymbols, api.MaxStates); got.Cmp(want) != 0 {
		t.Errorf("%s, not %s", got, want)
	}
	expectLikelihoodAtFrames(t, left(t, 3, 2), make([]int, api.MaxFrames))
	want := new(big.Rat).SetInt64(1)
	single, long := one(t), randomRecording(r, api.MaxFrames, 2)
	for _, k := range long {
		want.Mul(want, rat(t, []string{"1/6", "1/3"}[k]))
	}
	if got := likelihood(t, single, long); got.Cmp(want) != 0 {
		t.Errorf("%s, not %s", got, want)
	}
}

func TestPassErrors(t *testing.T) {
	check := func(m api.Model, o []int, want api.Errno) {
		t.Helper()
		rows, e := model.Forward(m, o)
		expectError(t, "Forward", len(rows) == 0, e, want)
		rows, e = model.Backward(m, o)
		expectError(t, "Backward", len(rows) == 0, e, want)
		got, e := model.Likelihood(m, o)
		expectError(t, "Likelihood", isZero(got), e, want)
	}
	expectRefusals(t, check)
}
