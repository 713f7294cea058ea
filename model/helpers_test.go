package model_test

import (
	"math"
	"math/big"
	"math/rand"
	"slices"
	"testing"

	"earshot/api"
	"earshot/frac"
	"earshot/model"
)

// bigOf returns the number with the given digits.
func bigOf(digits []uint32) *big.Int {
	n := new(big.Int)
	for i := len(digits) - 1; i >= 0; i-- {
		n.Lsh(n, 32).Or(n, big.NewInt(int64(digits[i])))
	}
	return n
}

// valueOf returns the value of a, computed without the program.
func valueOf(a api.Frac) *big.Rat {
	n, d := bigOf(a.N), bigOf(a.D)
	if d.Sign() == 0 {
		d.SetInt64(1)
	}
	if a.Neg {
		n.Neg(n)
	}
	return new(big.Rat).SetFrac(n, d)
}

// isCanonical reports whether a is canonical, computed without the program.
func isCanonical(a api.Frac) bool {
	trimmed := func(digits []uint32) bool { return len(digits) == 0 || digits[len(digits)-1] != 0 }
	x := valueOf(a)
	whole := x.IsInt() && len(a.D) == 0
	return trimmed(a.N) && trimmed(a.D) && a.Neg == (x.Sign() < 0) && bigOf(a.N).CmpAbs(x.Num()) == 0 && (whole || bigOf(a.D).Cmp(x.Denom()) == 0 && !x.IsInt())
}

// f reads a number.
func f(t *testing.T, s string) api.Frac {
	t.Helper()
	a, e := frac.Parse(s)
	if e != api.OK {
		t.Fatalf("%s: error %d", s, e)
	}
	return a
}

// fs reads numbers.
func fs(t *testing.T, list ...string) []api.Frac {
	t.Helper()
	var row []api.Frac
	for _, s := range list {
		row = append(row, f(t, s))
	}
	return row
}

// rat reads a number.
func rat(t *testing.T, s string) *big.Rat {
	t.Helper()
	x, ok := new(big.Rat).SetString(s)
	if !ok {
		t.Fatal(s)
	}
	return x
}

// rats reads numbers.
func rats(t *testing.T, list ...string) []*big.Rat {
	t.Helper()
	var row []*big.Rat
	for _, s := range list {
		row = append(row, rat(t, s))
	}
	return row
}

// one is the model a of the chapter's examples.
func one(t *testing.T) api.Model {
	t.Helper()
	return api.Model{Start: fs(t, "1"), Move: [][]api.Frac{fs(t, "1/2")}, End: fs(t, "1/2"), Say: [][]api.Frac{fs(t, "1/3", "2/3")}}
}

// left is Left(states, symbols).
func left(t *testing.T, states, symbols int) api.Model {
	t.Helper()
	m, e := model.Left(states, symbols)
	if e != api.OK {
		t.Fatalf("Left(%d, %d): error %d", states, symbols, e)
	}
	return m
}

// fraction returns n / d, sometimes with common divisors and digits 0 at the end.
func fraction(r *rand.Rand, n, d int) api.Frac {
	times := 1 + r.Intn(3)
	a := api.Frac{N: []uint32{uint32(n * times)}, D: []uint32{uint32(d * times)}}
	if r.Intn(3) == 0 {
		a.N, a.D = append(a.N, 0), append(a.D, 0, 0)
	}
	if n == 0 {
		a.Neg = r.Intn(2) == 0
	}
	return a
}

// randomDistribution returns a distribution of n weights, of which about so many of 10 as zeros says are 0.
func randomDistribution(r *rand.Rand, n, zeros int) []api.Frac {
	parts := make([]int, n)
	sum := 0
	for sum == 0 {
		for i := range parts {
			parts[i] = 0
			if r.Intn(10) >= zeros {
				parts[i] = 1 + r.Intn(4)
			}
			sum += parts[i]
		}
	}
	var row []api.Frac
	for _, part := range parts {
		row = append(row, fraction(r, part, sum))
	}
	return row
}

// randomModel returns a valid model; zeros says how many of 10 weights are about 0.
func randomModel(r *rand.Rand, states, symbols, zeros int) api.Model {
	m := api.Model{Start: randomDistribution(r, states, zeros)}
	for range states {
		leave := randomDistribution(r, states+1, zeros)
		m.Move, m.End = append(m.Move, leave[:states:states]), append(m.End, leave[states])
		m.Say = append(m.Say, randomDistribution(r, symbols, zeros))
	}
	return m
}

// randomRecording returns a recording of n frames.
func randomRecording(r *rand.Rand, n, symbols int) []int {
	o := make([]int, n)
	for t := range o {
		o[t] = r.Intn(symbols)
	}
	return o
}

// example is a model, and recordings of its symbols.
type example struct {
	m    api.Model
	data [][]int
}

// examples returns n small models, with and without weights that are 0, with three recordings each, also with empty ones.
func examples(seed int64, n int) []example {
	r := rand.New(rand.NewSource(seed))
	var list []example
	for i := range n {
		states, symbols := 1+r.Intn(3), 1+r.Intn(3)
		x := example{m: randomModel(r, states, symbols, []int{0, 3, 6}[i%3])}
		for range 3 {
			x.data = append(x.data, randomRecording(r, r.Intn(5), symbols))
		}
		list = append(list, x)
	}
	return list
}

// copyModel returns a copy of a model and of its memory.
func copyModel(m api.Model) api.Model {
	return api.Model{Start: copyRow(m.Start), Move: copyRows(m.Move), End: copyRow(m.End), Say: copyRows(m.Say)}
}

func copyRows(rows [][]api.Frac) [][]api.Frac {
	list := slices.Clone(rows)
	for i, row := range rows {
		list[i] = copyRow(row)
	}
	return list
}

func copyRow(row []api.Frac) []api.Frac {
	list := slices.Clone(row)
	for i, a := range row {
		list[i] = api.Frac{Neg: a.Neg, N: slices.Clone(a.N), D: slices.Clone(a.D)}
	}
	return list
}

// sameRows reports whether rows have the same digits.
func sameRows(a, b [][]api.Frac) bool {
	return slices.EqualFunc(a, b, func(x, y []api.Frac) bool {
		return slices.EqualFunc(x, y, func(v, w api.Frac) bool {
			return v.Neg == w.Neg && slices.Equal(v.N, w.N) && slices.Equal(v.D, w.D)
		})
	})
}

// expect checks a canonical number.
func expect(t *testing.T, what string, got api.Frac, want *big.Rat) {
	t.Helper()
	if !isCanonical(got) || valueOf(got).Cmp(want) != 0 {
		t.Errorf("%s: %v, not %s", what, got, want)
	}
}

// expectRow checks canonical numbers.
func expectRow(t *testing.T, what string, got []api.Frac, want []*big.Rat) {
	t.Helper()
	if len(got) != len(want) {
		t.Fatalf("%s: %d numbers, not %d", what, len(got), len(want))
	}
	for i, a := range got {
		expect(t, what, a, want[i])
	}
}

// expectRows checks rows of canonical numbers.
func expectRows(t *testing.T, what string, got [][]api.Frac, want [][]*big.Rat) {
	t.Helper()
	if len(got) != len(want) {
		t.Fatalf("%s: %d rows, not %d", what, len(got), len(want))
	}
	for i, row := range got {
		expectRow(t, what, row, want[i])
	}
}

// expectModel checks a model, whose numbers are to be canonical.
func expectModel(t *testing.T, what string, got api.Model, want exact) {
	t.Helper()
	expectRow(t, what+": Start", got.Start, want.start)
	expectRows(t, what+": Move", got.Move, want.move)
	expectRow(t, what+": End", got.End, want.end)
	expectRows(t, what+": Say", got.Say, want.say)
}

// expectCounts checks counts, whose numbers are to be canonical.
func expectCounts(t *testing.T, what string, got api.Counts, want exact, used, unused int) {
	t.Helper()
	expectModel(t, what, modelOf(got), want)
	if got.Used != used || got.Unused != unused {
		t.Errorf("%s: %d used and %d unused, not %d and %d", what, got.Used, got.Unused, used, unused)
	}
}

// expectError checks that there is the error want, with zero values beside it.
func expectError(t *testing.T, what string, zero bool, e, want api.Errno) {
	t.Helper()
	if e != want || !zero {
		t.Errorf("%s: error %d, not %d; zero: %t", what, e, want, zero)
	}
}

// modelOf returns counts as a model.
func modelOf(c api.Counts) api.Model {
	return api.Model{Start: c.Start, Move: c.Move, End: c.End, Say: c.Say}
}

// countsOf returns a model as counts.
func countsOf(m api.Model) api.Counts {
	return api.Counts{Start: m.Start, Move: m.Move, End: m.End, Say: m.Say}
}

// rowsOf returns all rows of a model.
func rowsOf(m api.Model) [][]api.Frac {
	return slices.Concat([][]api.Frac{m.Start, m.End}, m.Move, m.Say)
}

func isZero(a api.Frac) bool { return !a.Neg && len(a.N) == 0 && len(a.D) == 0 }

func isZeroModel(m api.Model) bool {
	return len(m.Start) == 0 && len(m.Move) == 0 && len(m.End) == 0 && len(m.Say) == 0
}

func isZeroCounts(c api.Counts) bool {
	return isZeroModel(modelOf(c)) && c.Used == 0 && c.Unused == 0
}

// likelihood returns the likelihood of a recording, which must not fail.
func likelihood(t *testing.T, m api.Model, o []int) *big.Rat {
	t.Helper()
	got, e := model.Likelihood(m, o)
	if e != api.OK {
		t.Fatalf("Likelihood of %v: error %d", o, e)
	}
	return valueOf(got)
}

// edgeInts returns numbers at the edges of the ranges of this layer.
func edgeInts() []int {
	list := []int{0, 1, 2, 19, 20, 21, 39, 40, 41, 63, 64, 65, 1000, 1001, math.MaxInt}
	for _, n := range slices.Clone(list) {
		list = append(list, -n)
	}
	return append(list, math.MinInt)
}
