// Tests of P4.5: Few.

package model_test

import (
	"math"
	"math/big"
	"math/rand"
	"testing"

	"earshot/api"
	"earshot/model"
)

func TestFewExamples(t *testing.T) {
	m, o := left(t, 2, 2), []int{0, 1, 0}
	got, lost, e := model.Few(m, o, 1)
	expectError(t, "Few that lose all", isZeroCounts(got) && isZero(lost), e, api.ErrNone)
	got, lost, e = model.Few(m, o, 2)
	if e != api.OK {
		t.Fatalf("error %d", e)
	}
	want := exact{rats(t, "1", "0"), [][]*big.Rat{rats(t, "1/2", "1"), rats(t, "0", "1/2")}, rats(t, "0", "1"), [][]*big.Rat{rats(t, "1", "1/2"), rats(t, "1", "1/2")}}
	expectCounts(t, "Few", got, want, 1, 0)
	expect(t, "Few", lost, rat(t, "0"))
	for _, o := range [][]int{nil, {}, {0}} {
		got, lost, e = model.Few(m, o, 2)
		expectError(t, "Few without a path", isZeroCounts(got) && isZero(lost), e, api.ErrNone)
	}
}

// TestFewLost checks a recording of which a part is lost: the state 1 is dropped at the first frame, and with it the path 1 1.
func TestFewLost(t *testing.T) {
	m := api.Model{Start: fs(t, "2/3", "1/3"), Move: [][]api.Frac{fs(t, "1/2", "0"), fs(t, "0", "1/2")}, End: fs(t, "1/2", "1/2"), Say: [][]api.Frac{fs(t, "1/2", "1/2"), fs(t, "1/2", "1/2")}}
	got, lost, e := model.Few(m, []int{0, 1}, 1)
	if e != api.OK {
		t.Fatalf("error %d", e)
	}
	want := exact{rats(t, "1", "0"), [][]*big.Rat{rats(t, "1", "0"), rats(t, "0", "0")}, rats(t, "1", "0"), [][]*big.Rat{rats(t, "1", "1"), rats(t, "0", "0")}}
	expectCounts(t, "Few", got, want, 1, 0)
	expect(t, "Few", lost, rat(t, "1/3"))
	// Of equal weights, that of the first state is kept.
	m.Start = fs(t, "1/2", "1/2")
	got, lost, e = model.Few(m, []int{0, 1}, 1)
	if e != api.OK {
		t.Fatalf("error %d", e)
	}
	expectCounts(t, "Few of equal states", got, want, 1, 0)
	expect(t, "Few of equal states", lost, rat(t, "1/2"))
}

// TestFewDefinition compares with all paths that are left.
func TestFewDefinition(t *testing.T) {
	some := 0
	for _, x := range examples(16, 200) {
		for _, o := range x.data {
			want := exactOf(x.m)
			for keep := 1; keep <= len(x.m.Start)+1; keep++ {
				got, lost, e := model.Few(x.m, o, keep)
				counts, left := want.few(o, keep)
				if left.Sign() == 0 {
					expectError(t, "Few", isZeroCounts(got) && isZero(lost), e, api.ErrNone)
					continue
				}
				if e != api.OK {
					t.Fatalf("error %d", e)
				}
				expectCounts(t, "Few", got, counts, 1, 0)
				part := left.Quo(left, want.likelihood(o))
				expect(t, "Few", lost, part.Sub(rat(t, "1"), part))
				if value := valueOf(lost); value.Sign() > 0 {
					some++
				} else if value.Sign() < 0 {
					t.Errorf("%s are lost", value)
				}
			}
		}
	}
	if some < 20 {
		t.Errorf("only in %d examples something is lost", some)
	}
}

// TestFewKeepsAll checks that the counts are those of Count if all states are kept.
func TestFewKeepsAll(t *testing.T) {
	r := rand.New(rand.NewSource(17))
	for _, c := range []struct{ states, symbols, frames int }{{1, 2, 9}, {4, 3, 12}, {api.MaxStates, api.MaxSymbols, 3}} {
		m, o := randomModel(r, c.states, c.symbols, 0), randomRecording(r, c.frames, c.symbols)
		counts, e := model.Count(m, o)
		if e != api.OK {
			t.Fatalf("error %d", e)
		}
		for _, keep := range []int{c.states, c.states + 1, math.MaxInt} {
			got, lost, e := model.Few(m, o, keep)
			if e != api.OK {
				t.Fatalf("error %d", e)
			}
			expectCounts(t, "Few", got, exactOf(modelOf(counts)), 1, 0)
			expect(t, "Few", lost, rat(t, "0"))
		}
	}
}

// TestFewOfMany checks the lost part where few of many states are kept.
func TestFewOfMany(t *testing.T) {
	r := rand.New(rand.NewSource(18))
	m, o := randomModel(r, api.MaxStates, 4, 0), randomRecording(r, 8, 4)
	before := rat(t, "1")
	for _, keep := range []int{1, 10, api.MaxStates - 1, api.MaxStates} {
		got, lost, e := model.Few(m, o, keep)
		if e != api.OK || got.Used != 1 || sumOf(exactRow(got.Start)).Cmp(rat(t, "1")) != 0 {
			t.Fatalf("error %d, %d used", e, got.Used)
		}
		if value := valueOf(lost); value.Sign() < 0 || value.Cmp(before) >= 0 {
			t.Errorf("%s are lost with %d states", value.FloatString(9), keep)
		} else {
			before = value
		}
	}
	if before.Sign() != 0 {
		t.Errorf("%s are lost with all states", before)
	}
}

func TestFewErrors(t *testing.T) {
	expectRefusals(t, func(m api.Model, o []int, want api.Errno) {
		t.Helper()
		for _, keep := range []int{-1, 0, 1, 50} {
			got, lost, e := model.Few(m, o, keep)
			expectError(t, "Few", isZeroCounts(got) && isZero(lost), e, want)
		}
	})
	for _, keep := range []int{0, -1, math.MinInt} {
		for _, o := range [][]int{nil, {0}, {0, 1, 0}} {
			got, lost, e := model.Few(left(t, 2, 2), o, keep)
			expectError(t, "Few", isZeroCounts(got) && isZero(lost), e, api.ErrArg)
		}
	}
}
