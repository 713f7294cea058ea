package lattice_test

import (
	"fmt"
	"math"
	"math/big"
	"math/rand"
	"slices"
	"strconv"
	"strings"
	"testing"

	"earshot/api"
	"earshot/frac"
	"earshot/gram"
)

// bigOf returns the number with the given digits.
func bigOf(digits []uint32) *big.Int {
	n := new(big.Int)
	for i := len(digits) - 1; i >= 0; i-- {
		n.Lsh(n, 32).Or(n, big.NewInt(int64(digits[i])))
	}
	return n
}

// valueOf returns the value of a, computed without the program.
func valueOf(a api.Frac) *big.Rat {
	n, d := bigOf(a.N), bigOf(a.D)
	if d.Sign() == 0 {
		d.SetInt64(1)
	}
	if a.Neg {
		n.Neg(n)
	}
	return new(big.Rat).SetFrac(n, d)
}

// isCanonical reports whether a is canonical, computed without the program.
func isCanonical(a api.Frac) bool {
	trimmed := func(digits []uint32) bool { return len(digits) == 0 || digits[len(digits)-1] != 0 }
	x := valueOf(a)
	whole := x.IsInt() && len(a.D) == 0
	return trimmed(a.N) && trimmed(a.D) && a.Neg == (x.Sign() < 0) && bigOf(a.N).CmpAbs(x.Num()) == 0 && (whole || bigOf(a.D).Cmp(x.Denom()) == 0 && !x.IsInt())
}

func isZero(a api.Frac) bool { return !a.Neg && len(a.N) == 0 && len(a.D) == 0 }

// f reads a number.
func f(t *testing.T, s string) api.Frac {
	t.Helper()
	a, e := frac.Parse(s)
	if e != api.OK {
		t.Fatalf("%s: error %d", s, e)
	}
	return a
}

// fs reads numbers with blanks between them.
func fs(t *testing.T, s string) []api.Frac {
	t.Helper()
	var list []api.Frac
	for _, x := range strings.Fields(s) {
		list = append(list, f(t, x))
	}
	return list
}

// text writes a number.
func text(a api.Frac) string { return valueOf(a).RatString() }

// fraction returns n / d, sometimes with common divisors and digits 0 at the end.
func fraction(r *rand.Rand, n, d int) api.Frac {
	times := 1 + r.Intn(3)
	a := api.Frac{N: []uint32{uint32(n * times)}, D: []uint32{uint32(d * times)}}
	if r.Intn(3) == 0 {
		a.N, a.D = append(a.N, 0), append(a.D, 0, 0)
	}
	return a
}

// randomDistribution returns n numbers that are a distribution. Often some of them are 0, and some are equal.
func randomDistribution(r *rand.Rand, n int) []api.Frac {
	parts := make([]int, n)
	sum := 0
	for i := range parts {
		parts[i] = max(r.Intn(4)-1, 0)
		sum += parts[i]
	}
	if sum == 0 {
		parts[r.Intn(n)], sum = 1, 1
	}
	list := make([]api.Frac, n)
	for i, k := range parts {
		list[i] = fraction(r, k, sum)
	}
	return list
}

// randomModel returns a model with so many states and symbols.
func randomModel(r *rand.Rand, states, symbols int) api.Model {
	m := api.Model{Start: randomDistribution(r, states)}
	for range states {
		row := randomDistribution(r, states+1)
		m.Move, m.End = append(m.Move, row[:states:states]), append(m.End, row[states])
		m.Say = append(m.Say, randomDistribution(r, symbols))
	}
	return m
}

// size says how large tasks are at most.
type size struct {
	phones, states, symbols, words, variants, spelled, order int
}

var small = size{phones: 3, states: 2, symbols: 3, words: 3, variants: 2, spelled: 2, order: 4}

// randomTask returns a valid task.
func randomTask(t *testing.T, r *rand.Rand, most size) api.Task {
	t.Helper()
	var x api.Task
	symbols := 1 + r.Intn(most.symbols)
	for range 1 + r.Intn(most.phones) {
		x.Phones = append(x.Phones, randomModel(r, 1+r.Intn(most.states), symbols))
	}
	for range 1 + r.Intn(most.words) {
		var word []api.Variant
		for _, weight := range randomDistribution(r, 1+r.Intn(most.variants)) {
			v := api.Variant{Weight: weight}
			for range 1 + r.Intn(most.spelled) {
				v.Phones = append(v.Phones, 1+r.Intn(len(x.Phones)))
			}
			word = append(word, v)
		}
		x.Words = append(x.Words, word)
	}
	x.Language = randomLanguage(t, r, 1+r.Intn(most.order), len(x.Words))
	return x
}

// randomLanguage returns a valid language model. If nothing was counted, many of its weights are equal.
func randomLanguage(t *testing.T, r *rand.Rand, order, words int) api.Language {
	t.Helper()
	var sentences [][]int
	for range r.Intn(4) {
		s := make([]int, r.Intn(8))
		for i := range s {
			s[i] = 1 + r.Intn(words)
		}
		sentences = append(sentences, s)
	}
	l := api.Language{Table: counted(t, order, words, sentences...), By: api.Smoothing(1 + r.Intn(4))}
	switch l.By {
	case api.Added:
		l.Amount = fraction(r, 1+r.Intn(3), 1+r.Intn(2))
	case api.Mixed:
		for range order + 1 {
			l.Mix = append(l.Mix, fraction(r, 1, order+1))
		}
	case api.Discounted:
		l.Amount = fraction(r, 1, 2)
	}
	return l
}

// counted is what gram.Count returns, which must not fail.
func counted(t *testing.T, order, words int, sentences ...[]int) api.Table {
	t.Helper()
	table, e := gram.Count(order, words, sentences...)
	if e != api.OK {
		t.Fatalf("Count: error %d", e)
	}
	return table
}

// randomRecording returns a recording of so many frames for a task.
func randomRecording(r *rand.Rand, x api.Task, frames int) []int {
	o := make([]int, frames)
	for i := range o {
		o[i] = r.Intn(len(x.Phones[0].Say[0]))
	}
	return o
}

// single is a model with one state.
func single(t *testing.T, move, end, say string) api.Model {
	t.Helper()
	return api.Model{Start: fs(t, "1"), Move: [][]api.Frac{fs(t, move)}, End: fs(t, end), Say: [][]api.Frac{fs(t, say)}}
}

// simple is the task of the chapter's examples.
func simple(t *testing.T) api.Task {
	t.Helper()
	return taskOf(t, []api.Model{single(t, "1/2", "1/2", "1/3 2/3")}, []int{1})
}

// taskOf is a task with some models, one variant for each word, and a language model of the order 1 that gives all words and the mark the same weight.
func taskOf(t *testing.T, models []api.Model, words ...[]int) api.Task {
	t.Helper()
	x := api.Task{Phones: models, Language: api.Language{Table: api.Table{Order: 1, Words: len(words)}, By: api.Typed}}
	for _, phones := range words {
		x.Words = append(x.Words, []api.Variant{{Phones: phones, Weight: frac.Of(1)}})
	}
	return x
}

// expect checks a number.
func expect(t *testing.T, what string, got api.Frac, e api.Errno, want *big.Rat) {
	t.Helper()
	if e != api.OK || !isCanonical(got) || valueOf(got).Cmp(want) != 0 {
		t.Fatalf("%s: %s and error %d, not %s", what, text(got), e, want.RatString())
	}
}

// ints reads integers with blanks between them.
func ints(t *testing.T, s string) []int {
	t.Helper()
	var list []int
	for _, x := range strings.Fields(s) {
		n, err := strconv.Atoi(x)
		if err != nil {
			t.Fatal(err)
		}
		list = append(list, n)
	}
	return list
}

// latticeOf reads a lattice: the From, To, Word, Variant and Weight of its arcs.
func latticeOf(t *testing.T, frames int, arcs ...string) api.Lattice {
	t.Helper()
	l := api.Lattice{Frames: frames}
	for _, s := range arcs {
		end := strings.LastIndex(s, " ")
		n := ints(t, s[:end])
		l.Arcs = append(l.Arcs, api.Arc{From: n[0], To: n[1], Word: n[2], Variant: n[3], Weight: f(t, s[end+1:])})
	}
	return l
}

// show writes a lattice as latticeOf reads it.
func show(l api.Lattice) string {
	words := []string{fmt.Sprintf("%d frames", l.Frames)}
	for _, a := range l.Arcs {
		words = append(words, fmt.Sprintf("%d %d %d %d %s", a.From, a.To, a.Word, a.Variant, text(a.Weight)))
	}
	return strings.Join(words, "; ")
}

// example is the lattice of the chapter's examples.
func example(t *testing.T) api.Lattice {
	t.Helper()
	return latticeOf(t, 2, "0 1 1 0 1/6", "0 2 1 0 1/18", "1 2 1 0 1/3")
}

// without is a lattice without paths that has some arcs.
func without(t *testing.T) api.Lattice {
	t.Helper()
	return latticeOf(t, 3, "0 1 1 0 1/2", "0 2 1 0 1", "1 2 1 0 1/2")
}

// uniform is a language model of the order 1 that gives all words and the mark the same weight.
func uniform(words int) api.Language {
	return api.Language{Table: api.Table{Order: 1, Words: words}, By: api.Typed}
}

// randomLattice returns a valid lattice with at most so many frames. Many of its weights are equal.
func randomLattice(r *rand.Rand, frames, words int) api.Lattice {
	l := api.Lattice{Frames: r.Intn(frames + 1)}
	density := 1 + r.Intn(4*words)
	for from := range l.Frames {
		for to := from + 1; to <= l.Frames; to++ {
			for word := range words {
				for variant := range 2 {
					if r.Intn(density) < 2-variant && len(l.Arcs) < 16 {
						l.Arcs = append(l.Arcs, api.Arc{From: from, To: to, Word: word + 1, Variant: variant * r.Intn(3), Weight: fraction(r, 1+r.Intn(4), 4)})
					}
				}
			}
		}
	}
	// An arc may stand there twice, because its variant is random.
	l.Arcs = slices.CompactFunc(l.Arcs, func(a, b api.Arc) bool {
		return a.From == b.From && a.To == b.To && a.Word == b.Word && a.Variant == b.Variant
	})
	return l
}

// randomCase returns a lattice and a language model for it.
func randomCase(t *testing.T, r *rand.Rand) (api.Lattice, api.Language) {
	t.Helper()
	words := 1 + r.Intn(3)
	return randomLattice(r, 4, words), randomLanguage(t, r, 1+r.Intn(4), words+r.Intn(2))
}

// sausage is a lattice in which each frame is explained by each of some words, with these weights.
func sausage(frames int, weights ...api.Frac) api.Lattice {
	l := api.Lattice{Frames: frames}
	for t := range frames {
		for i, w := range weights {
			l.Arcs = append(l.Arcs, api.Arc{From: t, To: t + 1, Word: i + 1, Weight: w})
		}
	}
	return l
}

// texts writes numbers with blanks between them.
func texts(list []api.Frac) string {
	var words []string
	for _, a := range list {
		words = append(words, text(a))
	}
	return strings.Join(words, " ")
}

// showRoute writes a route.
func showRoute(r api.Route) string {
	return fmt.Sprintf("arcs %v, words %v, weight %s", r.Arcs, r.Words, text(r.Weight))
}

// isNothing reports whether a route has only zero values.
func isNothing(r api.Route) bool {
	return len(r.Arcs) == 0 && len(r.Words) == 0 && isZero(r.Weight)
}

// expectAll checks a list of numbers.
func expectAll(t *testing.T, what string, got []api.Frac, e api.Errno, want []*big.Rat) {
	t.Helper()
	if e != api.OK || len(got) != len(want) {
		t.Fatalf("%s: %d numbers and error %d, not %d numbers", what, len(got), e, len(want))
	}
	for i, a := range got {
		expect(t, fmt.Sprintf("%s: number %d", what, i), a, e, want[i])
	}
}

// edgeInts returns numbers at the edges of the ranges of this layer.
func edgeInts() []int {
	list := []int{0, 1, 2, 3, 4, 20, 21, 500, 501, 1000, 1001, 2000, 2001, 20000, 20001, math.MaxInt}
	for _, n := range slices.Clone(list) {
		list = append(list, -n)
	}
	return append(list, math.MinInt)
}

// outside returns the edges that are not from least to greatest.
func outside(least, greatest int) []int {
	return slices.DeleteFunc(edgeInts(), func(n int) bool { return least <= n && n <= greatest })
}
