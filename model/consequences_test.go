// Tests of P4.8 (consequences), and of P0.6 for this layer.

package model_test

import (
	"math/big"
	"math/rand"
	"testing"

	"earshot/api"
	"earshot/model"
)

// TestZeroStaysZero checks that training gives no weight to what has none.
func TestZeroStaysZero(t *testing.T) {
	zeros := 0
	for i, x := range examples(31, 150) {
		c, e := model.Count(x.m, x.data...)
		if e != api.OK {
			t.Fatalf("error %d", e)
		}
		reestimated, e := model.Reestimate(x.m, c)
		if e != api.OK {
			t.Fatalf("error %d", e)
		}
		trained, e := model.Train(x.m, 1+i%2, 0, x.data...)
		if e != api.OK {
			t.Fatalf("error %d", e)
		}
		for _, got := range []api.Model{reestimated, trained} {
			rows := rowsOf(got)
			for j, row := range rowsOf(x.m) {
				for k, a := range row {
					if valueOf(a).Sign() == 0 {
						zeros++
						expect(t, "a weight that was 0", rows[j][k], new(big.Rat))
					}
				}
			}
		}
	}
	if zeros < 100 {
		t.Errorf("only %d weights are 0", zeros)
	}
}

// TestAllRecordings checks that the likelihoods of all recordings with at most so many frames have a sum of at most 1, which does not become less with more frames.
func TestAllRecordings(t *testing.T) {
	r := rand.New(rand.NewSource(32))
	for i := range 12 {
		symbols := 1 + i%3
		m := randomModel(r, 1+r.Intn(4), symbols, []int{0, 3, 6}[i/4])
		sum := new(big.Rat)
		for n := range 5 {
			for _, o := range paths(symbols, n) {
				x := likelihood(t, m, o)
				if x.Sign() < 0 {
					t.Errorf("the likelihood of %v is %s", o, x)
				}
				add(sum, x)
			}
			if sum.Cmp(rat(t, "1")) > 0 {
				t.Errorf("%d frames: %s", n, sum)
			}
		}
	}
	// This model says one of two symbols, then ends: nothing is left for longer recordings.
	m, sum := flat(1, 2), new(big.Rat)
	m.Say[0] = fs(t, "1/3", "2/3")
	for n := range 4 {
		for _, o := range paths(2, n) {
			add(sum, likelihood(t, m, o))
		}
	}
	if sum.Cmp(rat(t, "1")) != 0 {
		t.Errorf("%s", sum)
	}
}

// renamed returns a model whose state i is the state names[i] of m.
func renamed(m api.Model, names []int) api.Model {
	var n api.Model
	for _, i := range names {
		n.Start, n.End, n.Say = append(n.Start, m.Start[i]), append(n.End, m.End[i]), append(n.Say, m.Say[i])
		var row []api.Frac
		for _, j := range names {
			row = append(row, m.Move[i][j])
		}
		n.Move = append(n.Move, row)
	}
	return n
}

func TestRenamedStates(t *testing.T) {
	r := rand.New(rand.NewSource(33))
	for i := range 60 {
		m := randomModel(r, 1+r.Intn(6), 1+r.Intn(3), []int{0, 4}[i%2])
		o := randomRecording(r, r.Intn(12), len(m.Say[0]))
		names := r.Perm(len(m.Start))
		n := copyModel(renamed(m, names))
		want := likelihood(t, m, o)
		if got := likelihood(t, n, o); got.Cmp(want) != 0 {
			t.Errorf("with the names %v: %s, not %s", names, got, want)
		}
		before, e := model.Posterior(m, o)
		after, g := model.Posterior(n, o)
		if e != g || len(before) != len(after) {
			t.Fatalf("errors %d and %d", e, g)
		}
		for frame, row := range after {
			for j, a := range row {
				expect(t, "Posterior", a, valueOf(before[frame][names[j]]))
			}
		}
	}
}
