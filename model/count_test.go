// Tests of P4.4: Posterior, Count.

package model_test

import (
	"math/big"
	"math/rand"
	"slices"
	"testing"

	"earshot/api"
	"earshot/model"
)

func TestPosteriorExamples(t *testing.T) {
	got, e := model.Posterior(left(t, 2, 2), []int{0, 1, 0})
	if e != api.OK {
		t.Fatalf("error %d", e)
	}
	expectRows(t, "Posterior", got, [][]*big.Rat{rats(t, "1", "0"), rats(t, "1/2", "1/2"), rats(t, "0", "1")})
	for _, o := range [][]int{nil, {}, {0}} {
		got, e := model.Posterior(left(t, 2, 2), o)
		expectError(t, "Posterior", len(got) == 0, e, api.ErrNone)
	}
}

// TestPosteriorDefinition compares with all paths.
func TestPosteriorDefinition(t *testing.T) {
	for _, x := range examples(11, 150) {
		for _, o := range x.data {
			want := exactOf(x.m)
			got, e := model.Posterior(x.m, o)
			if want.likelihood(o).Sign() == 0 {
				expectError(t, "Posterior", len(got) == 0, e, api.ErrNone)
				continue
			}
			if e != api.OK {
				t.Fatalf("error %d", e)
			}
			expectRows(t, "Posterior", got, want.posterior(o))
		}
	}
}

// TestPosteriorIsDistribution checks the sums of longer recordings and larger models.
func TestPosteriorIsDistribution(t *testing.T) {
	r := rand.New(rand.NewSource(12))
	for _, c := range []struct{ states, symbols, frames, zeros int }{{5, 4, 30, 0}, {8, 2, 20, 5}, {api.MaxStates, api.MaxSymbols, 4, 0}, {1, 1, 100, 0}} {
		m := randomModel(r, c.states, c.symbols, c.zeros)
		got, e := model.Posterior(m, randomRecording(r, c.frames, c.symbols))
		if e == api.ErrNone && c.zeros > 0 {
			continue
		}
		if e != api.OK || len(got) != c.frames {
			t.Fatalf("%d rows and error %d", len(got), e)
		}
		for i, row := range got {
			if sum := sumOf(exactRow(row)); sum.Cmp(rat(t, "1")) != 0 {
				t.Errorf("frame %d: %s", i, sum)
			}
		}
	}
}

func TestCountExamples(t *testing.T) {
	got, e := model.Count(one(t), []int{0, 1}, []int{1})
	if e != api.OK {
		t.Fatalf("error %d", e)
	}
	want := exact{rats(t, "2"), [][]*big.Rat{rats(t, "1")}, rats(t, "2"), [][]*big.Rat{rats(t, "1", "2")}}
	expectCounts(t, "Count", got, want, 2, 0)
	got, e = model.Count(one(t), nil, []int{0, 1}, []int{}, []int{1})
	if e != api.OK {
		t.Fatalf("error %d", e)
	}
	expectCounts(t, "Count", got, want, 2, 2)
	for _, data := range [][][]int{nil, {nil}, {{0}, {1}}} {
		got, e = model.Count(left(t, 2, 3), data...)
		if e != api.OK {
			t.Fatalf("error %d", e)
		}
		expectCounts(t, "Count of nothing", got, blank(2, 3), 0, len(data))
	}
}

// TestCountDefinition compares with all paths.
func TestCountDefinition(t *testing.T) {
	for _, x := range examples(13, 150) {
		got, e := model.Count(x.m, x.data...)
		if e != api.OK {
			t.Fatalf("error %d", e)
		}
		want, used := exactOf(x.m).counts(x.data)
		expectCounts(t, "Count", got, want, used, len(x.data)-used)
	}
}

// TestCountSums checks how many starts, moves, ends and symbols are counted for a recording.
func TestCountSums(t *testing.T) {
	r := rand.New(rand.NewSource(14))
	for _, c := range []struct{ states, symbols, frames, zeros int }{{1, 1, 1, 0}, {1, 3, 50, 0}, {4, 3, 20, 3}, {3, 2, 15, 6}, {6, 5, 12, 0}, {api.MaxStates, api.MaxSymbols, 3, 0}} {
		m := randomModel(r, c.states, c.symbols, c.zeros)
		got, e := model.Count(m, randomRecording(r, c.frames, c.symbols))
		if e != api.OK {
			t.Fatalf("error %d", e)
		}
		sums := func(rows [][]api.Frac) *big.Rat { return sumOf(exactRow(slices.Concat(rows...))) }
		for _, n := range []struct {
			what string
			got  *big.Rat
			want int
		}{
			{"Start", sumOf(exactRow(got.Start)), got.Used}, {"End", sumOf(exactRow(got.End)), got.Used},
			{"Move", sums(got.Move), got.Used * (c.frames - 1)}, {"Say", sums(got.Say), got.Used * c.frames},
		} {
			if n.got.Cmp(new(big.Rat).SetInt64(int64(n.want))) != 0 {
				t.Errorf("%s of %d frames: %s", n.what, c.frames, n.got)
			}
		}
		if got.Used+got.Unused != 1 || c.zeros == 0 && got.Used == 0 {
			t.Errorf("%d used and %d unused", got.Used, got.Unused)
		}
	}
}

// TestLongCount checks a long recording, and as many of them as there may be.
func TestLongCount(t *testing.T) {
	r := rand.New(rand.NewSource(15))
	o := randomRecording(r, api.MaxFrames, 2)
	ones := 0
	for _, k := range o {
		ones += k
	}
	data := slices.Repeat([][]int{o}, api.MaxData)
	got, e := model.Count(one(t), data...)
	if e != api.OK {
		t.Fatalf("error %d", e)
	}
	number := func(n int) *big.Rat { return new(big.Rat).SetInt64(int64(n * api.MaxData)) }
	want := exact{[]*big.Rat{number(1)}, [][]*big.Rat{{number(api.MaxFrames - 1)}}, []*big.Rat{number(1)}, [][]*big.Rat{{number(api.MaxFrames - ones), number(ones)}}}
	expectCounts(t, "Count", got, want, api.MaxData, 0)
	got, e = model.Count(one(t), append(data, nil)...)
	expectError(t, "Count of too many", isZeroCounts(got), e, api.ErrLong)
}

func TestCountErrors(t *testing.T) {
	expectRefusals(t, func(m api.Model, o []int, want api.Errno) {
		t.Helper()
		rows, e := model.Posterior(m, o)
		expectError(t, "Posterior", len(rows) == 0, e, want)
		for _, data := range [][][]int{{o}, {nil, o}, {o, {0}}, {o, o}} {
			counts, e := model.Count(m, data...)
			expectError(t, "Count", isZeroCounts(counts), e, want)
		}
	})
	for _, wrong := range []int{-1, 2} {
		data := append(make([][]int, api.MaxData), []int{wrong})
		counts, e := model.Count(one(t), data...)
		expectError(t, "Count of too many", isZeroCounts(counts), e, api.ErrLong)
		counts, e = model.Count(one(t), data[1:]...)
		expectError(t, "Count of a wrong symbol", isZeroCounts(counts), e, api.ErrArg)
		counts, e = model.Count(one(t), []int{wrong}, make([]int, api.MaxFrames+1))
		expectError(t, "Count of a long recording", isZeroCounts(counts), e, api.ErrLong)
	}
	counts, e := model.Count(api.Model{}, make([][]int, api.MaxData+1)...)
	expectError(t, "Count without a model", isZeroCounts(counts), e, api.ErrLong)
}
