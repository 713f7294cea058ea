// Tests of P8.3: Best, Routes.

package lattice_test

import (
	"fmt"
	"math/big"
	"math/rand"
	"slices"
	"testing"

	"earshot/api"
	"earshot/frac"
	"earshot/lattice"
)

// routesOf is what Routes returns, which must not fail.
func routesOf(t *testing.T, l api.Lattice, m api.Language, n int) []api.Route {
	t.Helper()
	list, e := lattice.Routes(l, m, n)
	if e != api.OK {
		t.Fatalf("Routes of %s: error %d", show(l), e)
	}
	return list
}

func TestRoutesExamples(t *testing.T) {
	l, m := example(t), uniform(1)
	best, e := lattice.Best(l, m)
	if e != api.OK || showRoute(best) != "arcs [1], words [1], weight 1/72" {
		t.Errorf("%s, error %d", showRoute(best), e)
	}
	for n, want := range []string{"", "arcs [1], words [1], weight 1/72; ", "arcs [1], words [1], weight 1/72; arcs [0 2], words [1 1], weight 1/144; "} {
		for _, n := range []int{n, n + n/2*3} {
			got := ""
			for _, r := range routesOf(t, l, m, n) {
				got += showRoute(r) + "; "
			}
			if got != want {
				t.Errorf("%d routes: %s", n, got)
			}
		}
	}
}

// TestRoutes compares with all paths in their order.
func TestRoutes(t *testing.T) {
	r := rand.New(rand.NewSource(7))
	equal, several := 0, 0
	for range 500 {
		l, m := randomCase(t, r)
		p := pathsOf(t, l, m)
		n := []int{0, 1, 2, 5, len(p.list), api.MaxPaths}[r.Intn(6)]
		list := routesOf(t, l, m, n)
		if len(list) != min(n, len(p.list)) {
			t.Fatalf("%d of %d routes of %s, not %d", len(list), n, show(l), len(p.list))
		}
		sum := new(big.Rat)
		for i, x := range list {
			expect(t, "a weight", x.Weight, api.OK, p.weights[i])
			if !slices.Equal(x.Arcs, p.list[i]) || !slices.Equal(x.Words, wordsOf(l, p.list[i])) {
				t.Fatalf("route %d of %s: %s, not %v", i, show(l), showRoute(x), p.list[i])
			}
			if i > 0 && p.weights[i].Cmp(p.weights[i-1]) == 0 {
				equal++
			}
			sum.Add(sum, valueOf(x.Weight))
		}
		if sum.Cmp(p.total) > 0 {
			t.Fatalf("the weights of %d routes of %s are together %s", n, show(l), sum.RatString())
		}
		best, e := lattice.Best(l, m)
		if len(p.list) == 0 {
			if e != api.ErrNone || !isNothing(best) {
				t.Fatalf("Best of %s: %s, error %d", show(l), showRoute(best), e)
			}
			continue
		}
		if first := routesOf(t, l, m, 1); e != api.OK || showRoute(best) != showRoute(first[0]) {
			t.Fatalf("Best of %s: %s, not %s", show(l), showRoute(best), showRoute(first[0]))
		}
		several += min(len(list)/3, 1)
	}
	if equal < 200 || several < 100 {
		t.Errorf("%d equal weights, %d lists of several routes", equal, several)
	}
}

// TestRoutesOfManyPaths checks the order of paths whose weights are equal, and of which there are very many.
func TestRoutesOfManyPaths(t *testing.T) {
	const frames = 50
	// All paths weigh the same, so they come in lexicographic order: like numbers with as many binary digits as there are frames.
	l := sausage(frames, f(t, "1/2"), f(t, "1/2"))
	for i, x := range routesOf(t, l, uniform(2), api.MaxPaths) {
		for k, arc := range x.Arcs {
			if want := 2*k + i>>(frames-1-k)&1; arc != want {
				t.Fatalf("route %d: arc %d, not %d", i, arc, want)
			}
		}
	}
	// One word weighs twice as much: first all frames have it, then all but one, of which the last one comes first, then all but two.
	l = sausage(frames, f(t, "2/3"), f(t, "1/3"))
	want := [][]int{nil}
	for a := frames - 1; a >= 0; a-- {
		want = append(want, []int{a})
	}
	for a := frames - 1; a >= 0; a-- {
		for b := frames - 1; b > a; b-- {
			want = append(want, []int{a, b})
		}
	}
	for i, x := range routesOf(t, l, uniform(2), api.MaxPaths) {
		var others []int
		for k, word := range x.Words {
			if word == 2 {
				others = append(others, k)
			}
		}
		if i >= len(want) || !slices.Equal(others, want[i]) {
			t.Fatalf("route %d: the second word stands at %v", i, others)
		}
	}
}

// TestRoutesArePrefixes checks that fewer routes are the beginning of more, also for lattices of tasks.
func TestRoutesArePrefixes(t *testing.T) {
	r := rand.New(rand.NewSource(8))
	for range 60 {
		x := randomTask(t, r, small)
		l := made(t, x, randomRecording(r, x, 5+r.Intn(5)))
		all := fmt.Sprint(routesOf(t, l, x.Language, 200))
		for _, n := range []int{0, 1, 10, 100} {
			list := routesOf(t, l, x.Language, n)
			if got := fmt.Sprint(list); len(list) > n || got[:len(got)-1] != all[:len(got)-1] {
				t.Fatalf("%d routes of %s are not the first ones", n, show(l))
			}
		}
	}
}

// TestRoutesWithoutPaths checks lattices without paths, and without frames.
func TestRoutesWithoutPaths(t *testing.T) {
	for _, l := range []api.Lattice{{Frames: 1}, without(t)} {
		if best, e := lattice.Best(l, uniform(1)); e != api.ErrNone || !isNothing(best) {
			t.Errorf("Best of %s: error %d", show(l), e)
		}
		if list := routesOf(t, l, uniform(1), 5); len(list) != 0 {
			t.Errorf("%d routes of %s", len(list), show(l))
		}
	}
	best, e := lattice.Best(api.Lattice{}, uniform(1))
	expect(t, "the empty path", best.Weight, e, big.NewRat(1, 2))
	list := routesOf(t, api.Lattice{}, uniform(1), 5)
	if len(best.Arcs) != 0 || len(best.Words) != 0 || len(list) != 1 || showRoute(list[0]) != showRoute(best) {
		t.Errorf("%s and %d routes", showRoute(best), len(list))
	}
}

func TestRoutesErrors(t *testing.T) {
	for _, n := range outside(0, api.MaxPaths) {
		for _, l := range []api.Lattice{example(t), without(t)} {
			if list, e := lattice.Routes(l, uniform(1), n); e != api.ErrArg || list != nil {
				t.Errorf("%d: error %d", n, e)
			}
		}
	}
	if list := routesOf(t, sausage(12, frac.Of(1), frac.Of(1)), uniform(2), api.MaxPaths); len(list) != api.MaxPaths {
		t.Errorf("%d routes", len(list))
	}
	if list, e := lattice.Routes(full(api.MaxArcs+1), uniform(20), -1); e != api.ErrLong || list != nil {
		t.Errorf("too many arcs: error %d", e)
	}
}
