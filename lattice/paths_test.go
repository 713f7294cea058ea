// Tests of P8.2: Weight, Count, Total.

package lattice_test

import (
	"fmt"
	"math"
	"math/big"
	"math/rand"
	"slices"
	"testing"

	"earshot/api"
	"earshot/frac"
	"earshot/gram"
	"earshot/lattice"
)

func TestWeightExamples(t *testing.T) {
	w, e := lattice.Weight(example(t), uniform(1), []int{0, 2})
	expect(t, "the path 0 2", w, e, big.NewRat(1, 144))
	w, e = lattice.Weight(example(t), uniform(1), []int{1})
	expect(t, "the path 1", w, e, big.NewRat(1, 72))
	w, e = lattice.Weight(api.Lattice{}, uniform(1), nil)
	expect(t, "the empty path", w, e, big.NewRat(1, 2))
	n, e := lattice.Count(example(t))
	expect(t, "Count", n, e, big.NewRat(2, 1))
	w, e = lattice.Total(example(t), uniform(1))
	expect(t, "Total", w, e, big.NewRat(1, 48))
}

// TestPaths compares with all paths. Trimming changes nothing.
func TestPaths(t *testing.T) {
	r := rand.New(rand.NewSource(4))
	several, nothing := 0, 0
	for range 500 {
		l, m := randomCase(t, r)
		p := pathsOf(t, l, m)
		for i, path := range p.list {
			w, e := lattice.Weight(l, m, path)
			expect(t, "Weight", w, e, p.weights[i])
		}
		n, e := lattice.Count(l)
		expect(t, "Count", n, e, big.NewRat(int64(len(p.list)), 1))
		for _, x := range []api.Lattice{l, trimmed(t, l)} {
			sum, e := lattice.Total(x, m)
			expect(t, "Total", sum, e, p.total)
		}
		switch len(p.list) {
		case 0:
			nothing++
		case 1:
		default:
			several++
		}
	}
	if several < 100 || nothing < 20 {
		t.Errorf("%d lattices with several paths, %d with none", several, nothing)
	}
}

// TestNoPaths checks lattices without paths.
func TestNoPaths(t *testing.T) {
	for _, l := range []api.Lattice{{Frames: 1}, {Frames: api.MaxFrames}, without(t)} {
		n, e := lattice.Count(l)
		expect(t, "Count", n, e, new(big.Rat))
		w, e := lattice.Total(l, uniform(1))
		expect(t, "Total", w, e, new(big.Rat))
	}
	n, e := lattice.Count(api.Lattice{})
	expect(t, "Count without frames", n, e, one)
	w, e := lattice.Total(api.Lattice{}, uniform(3))
	expect(t, "Total without frames", w, e, big.NewRat(1, 4))
}

// TestNoPath checks lists that are no paths.
func TestNoPath(t *testing.T) {
	r := rand.New(rand.NewSource(5))
	for range 200 {
		l, m := randomCase(t, r)
		list := pathsFrom(l, 0)
		for range 20 {
			path := make([]int, r.Intn(4))
			for i := range path {
				path[i] = r.Intn(len(l.Arcs)+2) - 1
			}
			want := api.ErrArg
			if slices.ContainsFunc(list, func(p []int) bool { return slices.Equal(p, path) }) {
				want = api.OK
			}
			w, e := lattice.Weight(l, m, path)
			n, e2 := lattice.Wrong(l, m, path)
			if e != want || e2 != want || want != api.OK && (!isZero(w) || !isZero(n)) {
				t.Fatalf("%v in %s: errors %d and %d", path, show(l), e, e2)
			}
		}
	}
	for _, path := range [][]int{nil, {}, {0}, {2}, {1, 2}, {2, 0}, {0, 2, 2}, {0, 0, 2}, {1, 1}, {3}, {-1}, {math.MaxInt}, {math.MinInt}, {0, math.MaxInt}, make([]int, 30000)} {
		if w, e := lattice.Weight(example(t), uniform(1), path); e != api.ErrArg || !isZero(w) {
			t.Errorf("%v: error %d", path, e)
		}
	}
	for _, path := range [][]int{{0}, {-1}} {
		if _, e := lattice.Weight(api.Lattice{}, uniform(1), path); e != api.ErrArg {
			t.Errorf("%v without frames: error %d", path, e)
		}
	}
}

// TestLongPaths checks paths with more words than a sentence can have: all paths count, whatever their length.
func TestLongPaths(t *testing.T) {
	half, m := f(t, "1/2"), uniform(1)
	l := sausage(api.MaxFrames, half)
	path := make([]int, api.MaxFrames)
	for i := range path {
		path[i] = i
	}
	want := valueOf(powerOf(t, "1/2", 2*api.MaxFrames+1))
	w, e := lattice.Weight(l, m, path)
	expect(t, "Weight", w, e, want)
	w, e = lattice.Total(l, m)
	expect(t, "Total", w, e, want)
	best, e := lattice.Best(l, m)
	expect(t, "Best", best.Weight, e, want)
	safest, wrong, e := lattice.Safest(l, m)
	expect(t, "Safest", safest.Weight, e, want)
	expect(t, "the wrong frames", wrong, e, new(big.Rat))
	if !slices.Equal(best.Arcs, path) || !slices.Equal(safest.Arcs, path) || !slices.Equal(best.Words, slices.Repeat([]int{1}, api.MaxFrames)) {
		t.Error("the path")
	}
}

// TestManyPaths checks more paths than can be listed.
func TestManyPaths(t *testing.T) {
	l := sausage(api.MaxFrames, f(t, "1/2"), f(t, "1/3"), f(t, "1/7"))
	n, e := lattice.Count(l)
	expect(t, "Count", n, e, valueOf(powerOf(t, "3", api.MaxFrames)))
	// Each frame has the sum 41/42 times the weight 1/4 of each word; the mark has 1/4 too.
	w, e := lattice.Total(l, uniform(3))
	expect(t, "Total", w, e, times(valueOf(powerOf(t, "41/168", api.MaxFrames)), big.NewRat(1, 4)))
	all := full(api.MaxArcs)
	n, e = lattice.Count(all)
	expect(t, "Count of 20 words", n, e, valueOf(powerOf(t, "20", api.MaxFrames)))
	w, e = lattice.Total(all, uniform(20))
	expect(t, "Total of 20 words", w, e, times(valueOf(powerOf(t, "20/21", api.MaxFrames)), big.NewRat(1, 21)))
}

// totalOf returns the sum of the weights of all paths, which it adds for each frame and each history.
func totalOf(t *testing.T, l api.Lattice, m api.Language) *big.Rat {
	t.Helper()
	rows := map[string][]api.Frac{}
	row := func(h []int) []api.Frac {
		if rows[fmt.Sprint(h)] == nil {
			weights, e := gram.Row(m, h)
			if e != api.OK {
				t.Fatalf("Row: error %d", e)
			}
			rows[fmt.Sprint(h)] = weights
		}
		return rows[fmt.Sprint(h)]
	}
	type entry struct {
		history []int
		weight  *big.Rat
	}
	frames := make([]map[string]entry, l.Frames+1)
	for i := range frames {
		frames[i] = map[string]entry{}
	}
	start := make([]int, m.Table.Order-1)
	frames[0][fmt.Sprint(start)] = entry{start, one}
	for _, a := range l.Arcs {
		for _, x := range frames[a.From] {
			h := append(slices.Clone(x.history), a.Word)[1:]
			w := times(times(x.weight, valueOf(a.Weight)), valueOf(row(x.history)[a.Word]))
			if old, ok := frames[a.To][fmt.Sprint(h)]; ok {
				w = plus(w, old.weight)
			}
			frames[a.To][fmt.Sprint(h)] = entry{h, w}
		}
	}
	sum := new(big.Rat)
	for _, x := range frames[l.Frames] {
		sum.Add(sum, times(x.weight, valueOf(row(x.history)[0])))
	}
	return sum
}

// TestLongHistories compares with sums over all histories, for language models that know some of them.
func TestLongHistories(t *testing.T) {
	r := rand.New(rand.NewSource(6))
	for range 60 {
		const words, frames = 3, 9
		l := api.Lattice{Frames: frames}
		for from := range frames {
			for to := from + 1; to <= min(from+2, frames); to++ {
				for word := range words {
					if r.Intn(4) > 0 {
						l.Arcs = append(l.Arcs, api.Arc{From: from, To: to, Word: word + 1, Weight: fraction(r, 1+r.Intn(4), 4)})
					}
				}
			}
		}
		for order := 1; order <= api.MaxOrder; order++ {
			m := randomLanguage(t, r, order, words)
			w, e := lattice.Total(l, m)
			expect(t, "Total", w, e, totalOf(t, l, m))
		}
	}
}

// TestManyHistories checks language models of the greatest order with very many histories: nearly all go on alike.
func TestManyHistories(t *testing.T) {
	const words, frames = 20, 60
	m := api.Language{Table: counted(t, api.MaxOrder, words, []int{1, 2, 3, 4}, []int{2, 3, 2, 3, 5}), By: api.Typed}
	for _, by := range []api.Smoothing{api.Typed, api.Added} {
		m.By, m.Amount = by, frac.Of(0)
		if by == api.Added {
			m.Amount = frac.Of(1)
		}
		all := new(big.Rat)
		for length := range frames {
			w, e := lattice.Total(sausage(length, slices.Repeat([]api.Frac{frac.Of(1)}, words)...), m)
			if e != api.OK {
				t.Fatalf("Total: error %d", e)
			}
			all.Add(all, valueOf(w))
		}
		if all.Cmp(one) >= 0 || all.Cmp(big.NewRat(9, 10)) < 0 {
			t.Errorf("all sentences of less than %d words: %s", frames, all.FloatString(10))
		}
	}
}
