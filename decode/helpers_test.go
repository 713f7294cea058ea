package decode_test

import (
	"fmt"
	"math"
	"math/big"
	"math/rand"
	"slices"
	"strconv"
	"strings"
	"testing"

	"earshot/api"
	"earshot/decode"
	"earshot/frac"
	"earshot/gram"
)

// bigOf returns the number with the given digits.
func bigOf(digits []uint32) *big.Int {
	n := new(big.Int)
	for i := len(digits) - 1; i >= 0; i-- {
		n.Lsh(n, 32).Or(n, big.NewInt(int64(digits[i])))
	}
	return n
}

// valueOf returns the value of a, computed without the program.
func valueOf(a api.Frac) *big.Rat {
	n, d := bigOf(a.N), bigOf(a.D)
	if d.Sign() == 0 {
		d.SetInt64(1)
	}
	if a.Neg {
		n.Neg(n)
	}
	return new(big.Rat).SetFrac(n, d)
}

// isCanonical reports whether a is canonical, computed without the program.
func isCanonical(a api.Frac) bool {
	trimmed := func(digits []uint32) bool { return len(digits) == 0 || digits[len(digits)-1] != 0 }
	x := valueOf(a)
	whole := x.IsInt() && len(a.D) == 0
	return trimmed(a.N) && trimmed(a.D) && a.Neg == (x.Sign() < 0) && bigOf(a.N).CmpAbs(x.Num()) == 0 && (whole || bigOf(a.D).Cmp(x.Denom()) == 0 && !x.IsInt())
}

func isZero(a api.Frac) bool { return !a.Neg && len(a.N) == 0 && len(a.D) == 0 }

// f reads a number.
func f(t *testing.T, s string) api.Frac {
	t.Helper()
	a, e := frac.Parse(s)
	if e != api.OK {
		t.Fatalf("%s: error %d", s, e)
	}
	return a
}

// fs reads numbers with blanks between them.
func fs(t *testing.T, s string) []api.Frac {
	t.Helper()
	var list []api.Frac
	for _, x := range strings.Fields(s) {
		list = append(list, f(t, x))
	}
	return list
}

// text writes a number.
func text(a api.Frac) string { return valueOf(a).RatString() }

// fraction returns n / d, sometimes with common divisors and digits 0 at the end.
func fraction(r *rand.Rand, n, d int) api.Frac {
	times := 1 + r.Intn(3)
	a := api.Frac{N: []uint32{uint32(n * times)}, D: []uint32{uint32(d * times)}}
	if r.Intn(3) == 0 {
		a.N, a.D = append(a.N, 0), append(a.D, 0, 0)
	}
	return a
}

// randomDistribution returns n numbers that are a distribution. Often some of them are 0, and some are equal.
func randomDistribution(r *rand.Rand, n int) []api.Frac {
	parts := make([]int, n)
	sum := 0
	for i := range parts {
		parts[i] = max(r.Intn(4)-1, 0)
		sum += parts[i]
	}
	if sum == 0 {
		parts[r.Intn(n)], sum = 1, 1
	}
	list := make([]api.Frac, n)
	for i, k := range parts {
		list[i] = fraction(r, k, sum)
	}
	return list
}

// randomModel returns a model with so many states and symbols.
func randomModel(r *rand.Rand, states, symbols int) api.Model {
	m := api.Model{Start: randomDistribution(r, states)}
	for range states {
		row := randomDistribution(r, states+1)
		m.Move, m.End = append(m.Move, row[:states:states]), append(m.End, row[states])
		m.Say = append(m.Say, randomDistribution(r, symbols))
	}
	return m
}

// size says how large tasks are at most.
type size struct {
	phones, states, symbols, words, variants, spelled, order int
}

var small = size{phones: 3, states: 2, symbols: 3, words: 3, variants: 2, spelled: 2, order: 4}

// randomTask returns a valid task.
func randomTask(t *testing.T, r *rand.Rand, most size) api.Task {
	t.Helper()
	var x api.Task
	symbols := 1 + r.Intn(most.symbols)
	for range 1 + r.Intn(most.phones) {
		x.Phones = append(x.Phones, randomModel(r, 1+r.Intn(most.states), symbols))
	}
	for range 1 + r.Intn(most.words) {
		var word []api.Variant
		for _, weight := range randomDistribution(r, 1+r.Intn(most.variants)) {
			v := api.Variant{Weight: weight}
			for range 1 + r.Intn(most.spelled) {
				v.Phones = append(v.Phones, 1+r.Intn(len(x.Phones)))
			}
			word = append(word, v)
		}
		x.Words = append(x.Words, word)
	}
	x.Language = randomLanguage(t, r, 1+r.Intn(most.order), len(x.Words))
	return x
}

// randomLanguage returns a valid language model. If nothing was counted, many of its weights are equal.
func randomLanguage(t *testing.T, r *rand.Rand, order, words int) api.Language {
	t.Helper()
	var sentences [][]int
	for range r.Intn(4) {
		s := make([]int, r.Intn(4))
		for i := range s {
			s[i] = 1 + r.Intn(words)
		}
		sentences = append(sentences, s)
	}
	l := api.Language{Table: counted(t, order, words, sentences...), By: api.Smoothing(1 + r.Intn(4))}
	switch l.By {
	case api.Added:
		l.Amount = fraction(r, 1+r.Intn(3), 1+r.Intn(2))
	case api.Mixed:
		for range order + 1 {
			l.Mix = append(l.Mix, fraction(r, 1, order+1))
		}
	case api.Discounted:
		l.Amount = fraction(r, 1, 2)
	}
	return l
}

// counted is what gram.Count returns, which must not fail.
func counted(t *testing.T, order, words int, sentences ...[]int) api.Table {
	t.Helper()
	table, e := gram.Count(order, words, sentences...)
	if e != api.OK {
		t.Fatalf("Count: error %d", e)
	}
	return table
}

// randomRecording returns a recording of so many frames for a task.
func randomRecording(r *rand.Rand, x api.Task, frames int) []int {
	o := make([]int, frames)
	for i := range o {
		o[i] = r.Intn(len(x.Phones[0].Say[0]))
	}
	return o
}

// recordings returns all recordings of so many frames.
func recordings(symbols, frames int) [][]int {
	list := [][]int{nil}
	for range frames {
		var longer [][]int
		for _, o := range list {
			for k := range symbols {
				longer = append(longer, append(slices.Clone(o), k))
			}
		}
		list = longer
	}
	return list
}

// randomBeam returns a beam, which often drops tokens.
func randomBeam(r *rand.Rand) api.Beam {
	return api.Beam{Width: 1 + r.Intn(8), Ratio: fraction(r, r.Intn(3), 2+r.Intn(20))}
}

// single is a model with one state.
func single(t *testing.T, move, end, say string) api.Model {
	t.Helper()
	return api.Model{Start: fs(t, "1"), Move: [][]api.Frac{fs(t, move)}, End: fs(t, end), Say: [][]api.Frac{fs(t, say)}}
}

// simple is the task of the chapter's examples.
func simple(t *testing.T) api.Task {
	t.Helper()
	return taskOf(t, []api.Model{single(t, "1/2", "1/2", "1/3 2/3")}, []int{1})
}

// taskOf is a task with some models, one variant for each word, and a language model of the order 1 that gives all words and the mark the same weight.
func taskOf(t *testing.T, models []api.Model, words ...[]int) api.Task {
	t.Helper()
	x := api.Task{Phones: models, Language: api.Language{Table: api.Table{Order: 1, Words: len(words)}, By: api.Typed}}
	for _, phones := range words {
		x.Words = append(x.Words, []api.Variant{{Phones: phones, Weight: frac.Of(1)}})
	}
	return x
}

// whole is a beam that drops nothing.
func whole() api.Beam { return api.Beam{Width: api.MaxTokens} }

// decoded is what Decode returns, which must not fail.
func decoded(t *testing.T, x api.Task, b api.Beam, o []int) api.Report {
	t.Helper()
	report, e := decode.Decode(x, b, o)
	if e != api.OK {
		t.Fatalf("Decode: error %d", e)
	}
	return report
}

// showTrace writes points as New, Word, Variant, Phone, State.
func showTrace(trace []api.Point) string {
	var words []string
	for _, p := range trace {
		sign := "-"
		if p.New {
			sign = "+"
		}
		words = append(words, fmt.Sprintf("%s%d.%d.%d.%d", sign, p.Word, p.Variant, p.Phone, p.State))
	}
	return strings.Join(words, " ")
}

// showReport writes a report.
func showReport(r api.Report) string {
	return fmt.Sprintf("found %v: %s, words %v, weight %s, bound %s, dropped %d, proved %v", r.Found, showTrace(r.Trace), r.Words, text(r.Weight), text(r.Bound), r.Dropped, r.Proved)
}

// showProof writes a proof.
func showProof(p api.Proof) string {
	var lines []string
	for _, values := range p.Frames {
		var words []string
		for _, v := range values {
			words = append(words, fmt.Sprintf("%v/%d.%d.%d.%d: %s", v.History, v.Word, v.Variant, v.Phone, v.State, text(v.Left)))
		}
		lines = append(lines, strings.Join(words, "; "))
	}
	return strings.Join(lines, "\n")
}

// expect checks a number.
func expect(t *testing.T, what string, got api.Frac, e api.Errno, want *big.Rat) {
	t.Helper()
	if e != api.OK || !isCanonical(got) || valueOf(got).Cmp(want) != 0 {
		t.Fatalf("%s: %s and error %d, not %s", what, text(got), e, want.RatString())
	}
}

// edgeInts returns numbers at the edges of the ranges of this layer.
func edgeInts() []int {
	list := []int{0, 1, 2, 3, 4, 10, 11, 20, 21, 40, 41, 60, 61, 500, 1000, 1001, 2000, 2001, 20000, 20001, math.MaxInt}
	for _, n := range slices.Clone(list) {
		list = append(list, -n)
	}
	return append(list, math.MinInt)
}

// outside returns the edges that are not from least to greatest.
func outside(least, greatest int) []int {
	return slices.DeleteFunc(edgeInts(), func(n int) bool { return least <= n && n <= greatest })
}

// ints reads integers with blanks between them.
func ints(t *testing.T, s string) []int {
	t.Helper()
	var list []int
	for _, x := range strings.Fields(s) {
		n, err := strconv.Atoi(x)
		if err != nil {
			t.Fatal(err)
		}
		list = append(list, n)
	}
	return list
}

// points reads points that are written as showTrace writes them.
func points(t *testing.T, s string) []api.Point {
	t.Helper()
	var list []api.Point
	for _, x := range strings.Fields(s) {
		n := ints(t, strings.ReplaceAll(x[1:], ".", " "))
		list = append(list, api.Point{New: x[0] == '+', Word: n[0], Variant: n[1], Phone: n[2], State: n[3]})
	}
	return list
}
