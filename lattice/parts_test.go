// Tests of P8.4 and P8.5: Parts, Beam, Frames, Cuts.

package lattice_test

import (
	"fmt"
	"math/big"
	"math/rand"
	"slices"
	"strings"
	"testing"

	"earshot/api"
	"earshot/frac"
	"earshot/lattice"
)

// showShares writes the shares of frames.
func showShares(frames [][]api.Share) string {
	var lines []string
	for _, shares := range frames {
		var words []string
		for _, x := range shares {
			words = append(words, fmt.Sprintf("%d: %s", x.Word, text(x.Weight)))
		}
		lines = append(lines, strings.Join(words, " "))
	}
	return strings.Join(lines, "; ")
}

func TestPartsExamples(t *testing.T) {
	l, m := example(t), uniform(1)
	parts, e := lattice.Parts(l, m)
	cuts, e2 := lattice.Cuts(l, m)
	frames, e3 := lattice.Frames(l, m)
	if e != api.OK || e2 != api.OK || e3 != api.OK || texts(parts) != "1/3 2/3 1/3" || texts(cuts) != "1 1/3 1" || showShares(frames) != "1: 1; 1: 1" {
		t.Errorf("%s, %s, %s, errors %d, %d, %d", texts(parts), texts(cuts), showShares(frames), e, e2, e3)
	}
	for _, c := range []struct{ ratio, want string }{
		{"1", "2 frames; 0 2 1 0 1/18"}, {"1/2", show(l)}, {"0", show(l)}, {"501/1000", "2 frames; 0 2 1 0 1/18"},
	} {
		if got := show(beamOf(t, l, m, f(t, c.ratio))); got != c.want {
			t.Errorf("Beam with %s: %s", c.ratio, got)
		}
	}
}

// beamOf is what Beam returns, which must not fail.
func beamOf(t *testing.T, l api.Lattice, m api.Language, ratio api.Frac) api.Lattice {
	t.Helper()
	x, e := lattice.Beam(l, m, ratio)
	if e != api.OK || lattice.Check(x) != api.OK {
		t.Fatalf("Beam of %s: error %d, and %d for %s", show(l), e, lattice.Check(x), show(x))
	}
	return x
}

// TestParts compares with the sums over all paths. At each frame, the parts of the arcs that explain it have the sum 1.
func TestParts(t *testing.T) {
	r := rand.New(rand.NewSource(9))
	for range 500 {
		l, m := randomCase(t, r)
		p := pathsOf(t, l, m)
		parts, e := lattice.Parts(l, m)
		if len(p.list) == 0 {
			if e != api.ErrNone || parts != nil {
				t.Fatalf("Parts of %s: error %d", show(l), e)
			}
			continue
		}
		var want []*big.Rat
		for i := range l.Arcs {
			want = append(want, p.partOfArc(i))
		}
		expectAll(t, "Parts of "+show(l), parts, e, want)
		for k := range l.Frames {
			sum := new(big.Rat)
			for i, a := range l.Arcs {
				if a.From <= k && k < a.To {
					sum.Add(sum, valueOf(parts[i]))
				}
			}
			if sum.Cmp(one) != 0 {
				t.Fatalf("Parts of %s: %s together at the frame %d", show(l), sum.RatString(), k)
			}
		}
	}
}

// TestBeam compares with all paths that weigh enough. They stay, with their weights and with the best one.
func TestBeam(t *testing.T) {
	r := rand.New(rand.NewSource(10))
	dropped, edges := 0, 0
	for range 500 {
		l, m := randomCase(t, r)
		p := pathsOf(t, l, m)
		ratio := fraction(r, r.Intn(5), 4+r.Intn(4))
		// Often the ratio is just that of a path.
		if len(p.list) > 0 && r.Intn(2) == 0 {
			x := new(big.Rat).Quo(p.weights[r.Intn(len(p.list))], p.weights[0])
			ratio = f(t, x.RatString())
			edges++
		}
		want := api.Lattice{Frames: l.Frames}
		var good [][]int
		for i, path := range p.list {
			if p.weights[i].Cmp(times(valueOf(ratio), p.weights[0])) >= 0 {
				good = append(good, path)
			}
		}
		kept := slices.Compact(slices.Sorted(slices.Values(slices.Concat(good...))))
		for _, i := range kept {
			want.Arcs = append(want.Arcs, l.Arcs[i])
		}
		got := beamOf(t, l, m, ratio)
		if show(got) != show(want) {
			t.Fatalf("Beam of %s with %s: %s, not %s", show(l), text(ratio), show(got), show(want))
		}
		expectKept(t, got, m, p, kept, good)
		dropped += len(l.Arcs) - len(kept)
	}
	if dropped < 200 || edges < 100 {
		t.Errorf("%d arcs were dropped, %d ratios were those of paths", dropped, edges)
	}
}

// expectKept checks that good paths are paths of a beam, which has only some arcs, with the weights that they had.
func expectKept(t *testing.T, beam api.Lattice, m api.Language, p paths, kept []int, good [][]int) {
	t.Helper()
	for i, path := range good {
		var renamed []int
		for _, arc := range path {
			renamed = append(renamed, slices.Index(kept, arc))
		}
		w, e := lattice.Weight(beam, m, renamed)
		expect(t, "a path of the beam", w, e, p.weights[i])
		if best, e := lattice.Best(beam, m); i == 0 && (e != api.OK || !slices.Equal(best.Arcs, renamed)) {
			t.Fatalf("the best path of %s: %v, not %v", show(beam), best.Arcs, renamed)
		}
	}
}

// TestFrames compares with the words of all paths. The shares of each frame are a distribution.
func TestFrames(t *testing.T) {
	r := rand.New(rand.NewSource(11))
	several := 0
	for range 500 {
		l, m := randomCase(t, r)
		p := pathsOf(t, l, m)
		frames, e := lattice.Frames(l, m)
		if len(p.list) == 0 {
			if e != api.ErrNone || frames != nil {
				t.Fatalf("Frames of %s: error %d", show(l), e)
			}
			continue
		}
		if e != api.OK || len(frames) != l.Frames {
			t.Fatalf("Frames of %s: %d frames and error %d", show(l), len(frames), e)
		}
		for k, shares := range frames {
			var want []api.Share
			for word := 1; word <= m.Table.Words; word++ {
				if w := p.part(func(path []int) bool { return p.wordAt(path, k) == word }); w.Sign() > 0 {
					want = append(want, api.Share{Word: word, Weight: f(t, w.RatString())})
				}
			}
			if got := showShares([][]api.Share{shares}); got != showShares([][]api.Share{want}) {
				t.Fatalf("frame %d of %s: %s, not %s", k, show(l), got, showShares([][]api.Share{want}))
			}
			var weights []api.Frac
			for _, x := range shares {
				weights = append(weights, x.Weight)
				if !isCanonical(x.Weight) {
					t.Fatalf("frame %d of %s: %v", k, show(l), x.Weight)
				}
			}
			if !frac.Distribution(weights) {
				t.Fatalf("frame %d of %s: %s", k, show(l), texts(weights))
			}
			several += min(len(shares)/2, 1)
		}
	}
	if several < 100 {
		t.Errorf("only %d frames have several words", several)
	}
}

// TestCuts compares with the bounds of all paths. The cuts together are the expected number of words, plus 1 if there are frames.
func TestCuts(t *testing.T) {
	r := rand.New(rand.NewSource(12))
	for range 500 {
		l, m := randomCase(t, r)
		p := pathsOf(t, l, m)
		cuts, e := lattice.Cuts(l, m)
		if len(p.list) == 0 {
			if e != api.ErrNone || cuts != nil {
				t.Fatalf("Cuts of %s: error %d", show(l), e)
			}
			continue
		}
		var want []*big.Rat
		sum, words := new(big.Rat), new(big.Rat)
		for k := range l.Frames + 1 {
			want = append(want, p.part(func(path []int) bool {
				return slices.ContainsFunc(path, func(i int) bool { return l.Arcs[i].From == k || l.Arcs[i].To == k })
			}))
			sum.Add(sum, want[k])
		}
		expectAll(t, "Cuts of "+show(l), cuts, e, want)
		parts, e := lattice.Parts(l, m)
		if e != api.OK {
			t.Fatalf("Parts of %s: error %d", show(l), e)
		}
		for _, a := range parts {
			words.Add(words, valueOf(a))
		}
		if l.Frames == 0 {
			words.Sub(words, one)
		}
		if sum.Cmp(plus(words, one)) != 0 {
			t.Fatalf("the cuts of %s are together %s, the words %s", show(l), sum.RatString(), words.RatString())
		}
		if l.Frames > 0 && (text(cuts[0]) != "1" || text(cuts[l.Frames]) != "1") {
			t.Fatalf("Cuts of %s: %s", show(l), texts(cuts))
		}
	}
}

// TestPartsWithoutPaths checks lattices without paths, and without frames.
func TestPartsWithoutPaths(t *testing.T) {
	m := uniform(1)
	for _, l := range []api.Lattice{{Frames: 1}, without(t)} {
		parts, e := lattice.Parts(l, m)
		cuts, e2 := lattice.Cuts(l, m)
		frames, e3 := lattice.Frames(l, m)
		if e != api.ErrNone || e2 != api.ErrNone || e3 != api.ErrNone || parts != nil || cuts != nil || frames != nil {
			t.Errorf("%s: errors %d, %d, %d", show(l), e, e2, e3)
		}
		for _, ratio := range []string{"0", "1/2", "1"} {
			if x := beamOf(t, l, m, f(t, ratio)); x.Frames != l.Frames || len(x.Arcs) != 0 {
				t.Errorf("Beam of %s with %s: %s", show(l), ratio, show(x))
			}
		}
	}
	parts, e := lattice.Parts(api.Lattice{}, m)
	cuts, e2 := lattice.Cuts(api.Lattice{}, m)
	frames, e3 := lattice.Frames(api.Lattice{}, m)
	if e != api.OK || e2 != api.OK || e3 != api.OK || len(parts) != 0 || texts(cuts) != "0" || len(frames) != 0 {
		t.Errorf("%s, %s, %s, errors %d, %d, %d", texts(parts), texts(cuts), showShares(frames), e, e2, e3)
	}
	if x := beamOf(t, api.Lattice{}, m, frac.Of(1)); x.Frames != 0 || len(x.Arcs) != 0 {
		t.Errorf("Beam of no frames: %s", show(x))
	}
}

// TestUselessArcs checks that arcs on no path have the part 0, and that no beam keeps them.
func TestUselessArcs(t *testing.T) {
	l := latticeOf(t, 3, "0 1 1 0 1", "0 1 2 0 1", "0 3 2 0 1/1000", "1 2 1 0 1", "2 3 3 0 1/2", "2 3 3 1 1/4")
	l.Arcs = slices.Delete(l.Arcs, 3, 4)
	m := uniform(3)
	parts, e := lattice.Parts(l, m)
	frames, e2 := lattice.Frames(l, m)
	if e != api.OK || e2 != api.OK || texts(parts) != "0 0 1 0 0" || showShares(frames) != "2: 1; 2: 1; 2: 1" {
		t.Errorf("%s, %s", texts(parts), showShares(frames))
	}
	if x := beamOf(t, l, m, api.Frac{}); show(x) != "3 frames; 0 3 2 0 1/1000" {
		t.Error(show(x))
	}
}

func TestBeamErrors(t *testing.T) {
	for _, ratio := range []string{"-1", "-1/1000000", "2", "1000001/1000000"} {
		for _, l := range []api.Lattice{example(t), without(t)} {
			if x, e := lattice.Beam(l, uniform(1), f(t, ratio)); e != api.ErrArg || x.Frames != 0 || x.Arcs != nil {
				t.Errorf("%s: error %d", ratio, e)
			}
		}
	}
	if x, e := lattice.Beam(full(api.MaxArcs+1), uniform(20), frac.Of(2)); e != api.ErrLong || x.Frames != 0 || x.Arcs != nil {
		t.Errorf("too many arcs: error %d", e)
	}
}

// TestManyParts checks a lattice with the greatest number of arcs.
func TestManyParts(t *testing.T) {
	l, m := full(api.MaxArcs), uniform(20)
	parts, e := lattice.Parts(l, m)
	cuts, e2 := lattice.Cuts(l, m)
	frames, e3 := lattice.Frames(l, m)
	if e != api.OK || e2 != api.OK || e3 != api.OK || len(parts) != len(l.Arcs) || len(cuts) != l.Frames+1 || len(frames) != l.Frames {
		t.Fatalf("%d, %d, %d numbers, errors %d, %d, %d", len(parts), len(cuts), len(frames), e, e2, e3)
	}
	for _, a := range parts {
		if text(a) != "1/20" {
			t.Fatalf("a part is %s", text(a))
		}
	}
	for _, a := range cuts {
		if text(a) != "1" {
			t.Fatalf("a cut is %s", text(a))
		}
	}
	for _, shares := range frames {
		if len(shares) != 20 || shares[19].Word != 20 || text(shares[19].Weight) != "1/20" {
			t.Fatal(showShares(frames[:1]))
		}
	}
	if x := beamOf(t, l, m, frac.Of(1)); len(x.Arcs) != len(l.Arcs) {
		t.Errorf("%d arcs in the beam", len(x.Arcs))
	}
}
