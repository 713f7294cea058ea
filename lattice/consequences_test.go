// Tests of P8.8.

package lattice_test

import (
	"fmt"
	"math/rand"
	"testing"

	"earshot/api"
	"earshot/frac"
	"earshot/lattice"
)

// ratios writes all results that are ratios of the weights of paths.
func ratios(t *testing.T, l api.Lattice, m api.Language, term []int) string {
	t.Helper()
	parts, e1 := lattice.Parts(l, m)
	frames, e2 := lattice.Frames(l, m)
	cuts, e3 := lattice.Cuts(l, m)
	hits, e4 := lattice.Find(l, m, term...)
	has, e5 := lattice.Has(l, m, term...)
	safest, least, e6 := lattice.Safest(l, m)
	wrong, e7 := lattice.Wrong(l, m, safest.Arcs)
	return fmt.Sprintf("%s / %s / %s / %s / %s / %v, %s / %s / %v", texts(parts), showShares(frames), texts(cuts), showHits(hits), text(has), safest.Arcs, text(least), text(wrong), []api.Errno{e1, e2, e3, e4, e5, e6, e7})
}

// TestMultiplied checks that ratios stay the same if the weights of all arcs from 0 are multiplied by the same number.
func TestMultiplied(t *testing.T) {
	r := rand.New(rand.NewSource(16))
	greater := 0
	for range 200 {
		l, m := randomCase(t, r)
		term := randomTerm(r, pathsOf(t, l, m), m.Table.Words)
		var first []api.Frac
		for _, a := range l.Arcs {
			if a.From == 0 {
				first = append(first, a.Weight)
			}
		}
		factor := fraction(r, 1+r.Intn(20), 21)
		// Sometimes the greatest weight becomes 1.
		if len(first) > 0 && r.Intn(2) == 0 {
			factor, _ = frac.Div(frac.Of(1), first[frac.Best(first...)])
			greater++
		}
		x := l
		x.Arcs = nil
		for _, a := range l.Arcs {
			if a.From == 0 {
				a.Weight = frac.Mul(a.Weight, factor)
			}
			x.Arcs = append(x.Arcs, a)
		}
		if a, b := ratios(t, l, m, term), ratios(t, x, m, term); a != b {
			t.Fatalf("%s has %s; %s has %s", show(l), a, show(x), b)
		}
		before, e := lattice.Total(l, m)
		after, e2 := lattice.Total(x, m)
		if want := before; l.Frames > 0 {
			want = frac.Mul(before, factor)
			expect(t, "the total", after, max(e, e2), valueOf(want))
		}
	}
	if greater < 50 {
		t.Errorf("only %d weights became 1", greater)
	}
}

// TestOnePath checks lattices with only one path, among arcs on none: its parts, cuts and words are certain.
func TestOnePath(t *testing.T) {
	r := rand.New(rand.NewSource(17))
	seen := 0
	for range 2000 {
		l, m := randomCase(t, r)
		list := pathsFrom(l, 0)
		if len(list) != 1 || l.Frames == 0 {
			continue
		}
		seen++
		parts, e := lattice.Parts(l, m)
		cuts, e2 := lattice.Cuts(l, m)
		has, e3 := lattice.Has(l, m, wordsOf(l, list[0])...)
		if e != api.OK || e2 != api.OK || e3 != api.OK || text(has) != "1" || text(cuts[0]) != "1" {
			t.Fatalf("%s: %s, errors %d, %d, %d", show(l), text(has), e, e2, e3)
		}
		for _, i := range list[0] {
			if text(parts[i]) != "1" || text(cuts[l.Arcs[i].To]) != "1" {
				t.Fatalf("%s: %s and %s", show(l), texts(parts), texts(cuts))
			}
		}
	}
	if seen < 50 {
		t.Errorf("only %d", seen)
	}
}
