// Tests of P8.7: Wrong, Safest.

package lattice_test

import (
	"fmt"
	"math/big"
	"math/rand"
	"slices"
	"testing"

	"earshot/api"
	"earshot/frac"
	"earshot/lattice"
)

func TestWrongExamples(t *testing.T) {
	l, m := example(t), uniform(1)
	safest, wrong, e := lattice.Safest(l, m)
	expect(t, "Safest", wrong, e, new(big.Rat))
	if showRoute(safest) != "arcs [0 2], words [1 1], weight 1/144" {
		t.Error(showRoute(safest))
	}
	for _, path := range [][]int{{0, 2}, {1}} {
		wrong, e = lattice.Wrong(l, m, path)
		expect(t, "Wrong", wrong, e, new(big.Rat))
	}
	two := latticeOf(t, 1, "0 1 1 0 1/4", "0 1 2 0 1/2")
	safest, wrong, e = lattice.Safest(two, uniform(2))
	expect(t, "Safest of two words", wrong, e, big.NewRat(1, 3))
	if showRoute(safest) != "arcs [1], words [2], weight 1/18" {
		t.Error(showRoute(safest))
	}
	wrong, e = lattice.Wrong(two, uniform(2), []int{0})
	expect(t, "Wrong of two words", wrong, e, big.NewRat(2, 3))
}

// TestWrong compares with all paths, each with each other one.
func TestWrong(t *testing.T) {
	r := rand.New(rand.NewSource(15))
	equal, unlikely, positive := 0, 0, 0
	for range 500 {
		l, m := randomCase(t, r)
		p := pathsOf(t, l, m)
		safest, least, e := lattice.Safest(l, m)
		if len(p.list) == 0 {
			if e != api.ErrNone || !isNothing(safest) || !isZero(least) {
				t.Fatalf("Safest of %s: error %d", show(l), e)
			}
			continue
		}
		var want []int
		var number *big.Rat
		for _, path := range pathsFrom(l, 0) {
			wrong, e := lattice.Wrong(l, m, path)
			n := p.wrong(path)
			expect(t, fmt.Sprintf("Wrong of %v in %s", path, show(l)), wrong, e, n)
			switch {
			case number == nil || n.Cmp(number) < 0:
				want, number = path, n
			case n.Cmp(number) == 0:
				equal++
			}
		}
		expect(t, "the wrong frames of the safest path of "+show(l), least, e, number)
		expect(t, "the weight of the safest path of "+show(l), safest.Weight, e, weightOf(t, l, m, want))
		if !slices.Equal(safest.Arcs, want) || !slices.Equal(safest.Words, wordsOf(l, want)) {
			t.Fatalf("Safest of %s: %s, not %v", show(l), showRoute(safest), want)
		}
		expectFrames(t, p, number)
		positive += number.Sign()
		if !slices.Equal(want, p.list[0]) {
			unlikely++
		}
	}
	if equal < 100 || unlikely < 50 || positive < 100 {
		t.Errorf("%d paths are as safe as another one, %d safest paths are not the best ones, %d have wrong frames", equal, unlikely, positive)
	}
}

// expectFrames checks that the wrong frames of the safest path are at most all, and none just if all paths explain each frame with the same word.
func expectFrames(t *testing.T, p paths, wrong *big.Rat) {
	t.Helper()
	alike := true
	for k := range p.lattice.Frames {
		for _, path := range p.list {
			alike = alike && p.wordAt(path, k) == p.wordAt(p.list[0], k)
		}
	}
	if wrong.Sign() < 0 || wrong.Cmp(big.NewRat(int64(p.lattice.Frames), 1)) > 0 || alike != (wrong.Sign() == 0) {
		t.Fatalf("%s: %s wrong frames", show(p.lattice), wrong.RatString())
	}
}

// TestSafestOfManyPaths checks a lattice of which not all paths can be listed.
func TestSafestOfManyPaths(t *testing.T) {
	l, m := sausage(api.MaxFrames, f(t, "1/5"), f(t, "1/2"), f(t, "1/2"), f(t, "1/3")), uniform(4)
	// The parts of the words are 6/46, 15/46, 15/46 and 10/46 at each frame, so the second word is right with 15/46; so is the third one, which comes later.
	safest, wrong, e := lattice.Safest(l, m)
	expect(t, "Safest", wrong, e, big.NewRat(31*api.MaxFrames, 46))
	if !slices.Equal(safest.Words, slices.Repeat([]int{2}, api.MaxFrames)) {
		t.Errorf("the words %v", safest.Words)
	}
	w, e := lattice.Weight(l, m, safest.Arcs)
	expect(t, "the weight", safest.Weight, e, valueOf(w))
	path := make([]int, api.MaxFrames)
	for i := range path {
		path[i] = 4 * i
	}
	wrong, e = lattice.Wrong(l, m, path)
	expect(t, "Wrong", wrong, e, big.NewRat(40*api.MaxFrames, 46))
}

// TestSafestWithoutPaths checks lattices without paths, and without frames.
func TestSafestWithoutPaths(t *testing.T) {
	for _, l := range []api.Lattice{{Frames: 1}, without(t)} {
		if safest, wrong, e := lattice.Safest(l, uniform(1)); e != api.ErrNone || !isNothing(safest) || !isZero(wrong) {
			t.Errorf("Safest of %s: error %d", show(l), e)
		}
		if wrong, e := lattice.Wrong(l, uniform(1), nil); e != api.ErrArg || !isZero(wrong) {
			t.Errorf("Wrong of %s: error %d", show(l), e)
		}
	}
	safest, wrong, e := lattice.Safest(api.Lattice{}, uniform(1))
	expect(t, "Safest without frames", wrong, e, new(big.Rat))
	if showRoute(safest) != "arcs [], words [], weight 1/2" {
		t.Error(showRoute(safest))
	}
	wrong, e = lattice.Wrong(api.Lattice{}, uniform(1), nil)
	expect(t, "Wrong without frames", wrong, e, new(big.Rat))
}

// TestWrongErrors checks that a path is examined after the lattice and the language model.
func TestWrongErrors(t *testing.T) {
	long := uniform(1)
	long.Table.List = make([]api.Gram, api.MaxGrams+1)
	for _, c := range []struct {
		what string
		l    api.Lattice
		m    api.Language
		want api.Errno
	}{
		{"no path", example(t), uniform(1), api.ErrArg},
		{"too many arcs", full(api.MaxArcs + 1), uniform(20), api.ErrLong},
		{"too many n-grams", example(t), long, api.ErrLong},
	} {
		wrong, e := lattice.Wrong(c.l, c.m, []int{-1})
		w, e2 := lattice.Weight(c.l, c.m, []int{-1})
		if e != c.want || e2 != c.want || !isZero(wrong) || !isZero(w) {
			t.Errorf("%s: errors %d and %d", c.what, e, e2)
		}
	}
	if _, e := lattice.Wrong(sausage(2, frac.Of(1)), uniform(1), []int{0}); e != api.ErrArg {
		t.Errorf("the beginning of a path: error %d", e)
	}
}
