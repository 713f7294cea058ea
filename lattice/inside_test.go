package lattice

import (
	"math/rand"
	"slices"
	"testing"

	"earshot/api"
	"earshot/frac"
	"earshot/gram"
)

// languages returns language models of an order with each smoothing, for four words.
func languages(t *testing.T, r *rand.Rand, order int) []api.Language {
	t.Helper()
	var sentences [][]int
	for range 5 {
		s := make([]int, r.Intn(8))
		for i := range s {
			s[i] = 1 + r.Intn(3)
		}
		sentences = append(sentences, s)
	}
	table, e := gram.Count(order, 4, sentences...)
	if e != api.OK {
		t.Fatalf("Count: error %d", e)
	}
	half := api.Frac{N: []uint32{1}, D: []uint32{2}}
	mix, e := gramMix(order)
	if e != api.OK {
		t.Fatalf("Normalize: error %d", e)
	}
	return []api.Language{{Table: table, By: api.Added, Amount: half}, {Table: table, By: api.Mixed, Mix: mix}, {Table: table, By: api.Discounted, Amount: half}, {Table: table, By: api.Typed}}
}

// gramMix returns different weights for the estimates of all orders.
func gramMix(order int) ([]api.Frac, api.Errno) {
	var list []api.Frac
	for i := range order + 1 {
		list = append(list, frac.Of(i+1))
	}
	return frac.Normalize(list)
}

// TestPredictor checks that the weights after a history that replaces others are those after the history itself, and that there are no more such histories than differ.
func TestPredictor(t *testing.T) {
	r := rand.New(rand.NewSource(30))
	all := map[int]bool{1: true, 2: true, 3: true, 4: true}
	for order := 1; order <= api.MaxOrder; order++ {
		for _, m := range languages(t, r, order) {
			x := predict(m, all)
			h, full := history{}, make([]int, order-1)
			replaced := 0
			for range 200 {
				word := 1 + r.Intn(4)
				h = x.next(h, word)
				full, _ = gram.Next(m, full, word)
				want, e := gram.Row(m, full)
				if e != api.OK {
					t.Fatalf("Row: error %d", e)
				}
				for w, factor := range x.row(h) {
					if frac.Cmp(factor.Exact(), want[w]) != 0 {
						t.Fatalf("order %d, smoothing %d: %d after %v has %s, not %s", order, m.By, w, full, frac.Text(factor.Exact()), frac.Text(want[w]))
					}
				}
				if !slices.Equal(h[:order-1], full) {
					replaced++
				}
			}
			if order > 2 && replaced == 0 || len(x.rows) > len(x.seen)+1 {
				t.Errorf("order %d: %d histories were replaced, %d remain of %d pieces", order, replaced, len(x.rows), len(x.seen))
			}
		}
	}
}

// TestPredictorWords checks that only the weights of words that are asked for are remembered.
func TestPredictorWords(t *testing.T) {
	x := predict(api.Language{Table: api.Table{Order: 2, Words: 3}, By: api.Typed}, map[int]bool{2: true})
	row := x.row(history{})
	if len(row) != 4 || row[0] == nil || row[1] != nil || row[2] == nil || row[3] != nil {
		t.Errorf("%v", row)
	}
}

// TestScale checks that all weights of a scaled graph are integers, and that the weight of each path is multiplied by the same number.
func TestScale(t *testing.T) {
	l := api.Lattice{Frames: 3}
	n := uint32(1)
	for from := range 3 {
		for to := from + 1; to <= 3; to++ {
			for word := 1; word <= 2; word++ {
				n++
				l.Arcs = append(l.Arcs, api.Arc{From: from, To: to, Word: word, Weight: api.Frac{N: []uint32{n}, D: []uint32{40 - n}}})
			}
		}
	}
	for _, m := range languages(t, rand.New(rand.NewSource(31)), 3) {
		g := build(l, m, noTerm)
		x := g.scale()
		for _, list := range [][]api.Frac{x.weights, x.ends, {x.scale}} {
			for _, w := range list {
				if len(w.D) > 0 {
					t.Fatalf("the weight %s", frac.Text(w))
				}
			}
		}
		for path, weight := range walks(x, 0) {
			want, e := Weight(l, m, path)
			if e != api.OK || frac.Cmp(frac.Mul(want, x.scale), weight) != 0 {
				t.Errorf("%v: %s, not %s times %s", path, frac.Text(weight), frac.Text(want), frac.Text(x.scale))
			}
		}
	}
}

// walks yields the paths from a spot, as arcs, and their weights in a scaled graph.
func walks(x scaled, spot int) func(yield func([]int, api.Frac) bool) {
	return func(yield func([]int, api.Frac) bool) {
		if x.marks[spot] != nil {
			yield(nil, x.ends[spot])
			return
		}
		weights := cut(x.weights, x.rows[spot])
		for k, s := range x.row(spot) {
			for rest, w := range walks(x, s.to) {
				if s.arc != noArc {
					rest = append([]int{s.arc}, rest...)
				}
				if !yield(rest, frac.Mul(w, weights[k])) {
					return
				}
			}
		}
	}
}

// TestListen checks how many words of a term are heard, against all ends of the words before.
func TestListen(t *testing.T) {
	r := rand.New(rand.NewSource(32))
	for range 300 {
		term := make([]int, 1+r.Intn(6))
		for i := range term {
			term[i] = 1 + r.Intn(2)
		}
		hear := listen(term)
		var said []int
		heard := 0
		for range 30 {
			said = append(said, 1+r.Intn(3)*r.Intn(2))
			was := heard
			heard = hear(heard, said[len(said)-1])
			want := 0
			for n := range len(term) + 1 {
				if n <= len(said) && slices.Equal(said[len(said)-n:], term[:n]) {
					want = n
				}
			}
			if was == len(term) {
				want = was
			}
			if heard != want {
				t.Fatalf("%v of %v: %d, not %d", said, term, heard, want)
			}
		}
	}
}

// TestOutline checks that an outline says just where the weights are greater than 0.
func TestOutline(t *testing.T) {
	r := rand.New(rand.NewSource(33))
	weight := func() api.Frac { return api.Frac{N: []uint32{uint32(max(r.Intn(4)-1, 0))}, D: []uint32{7}} }
	row := func(n int) []api.Frac {
		list := make([]api.Frac, n)
		for i := range list {
			list[i] = weight()
		}
		return list
	}
	ended := 0
	for range 500 {
		n := 1 + r.Intn(4)
		m := api.Model{Start: row(n), End: row(n)}
		for range n {
			m.Move, m.Say = append(m.Move, row(n)), append(m.Say, row(2))
		}
		p := phoneOf(m)
		o := make([]int, r.Intn(7))
		for i := range o {
			o[i] = r.Intn(2)
		}
		begins := row(len(o) + 1)
		ends := p.pass(begins, o)
		reach := p.outline.pass(slices.Collect(func(yield func(bool) bool) {
			for _, w := range begins {
				if !yield(frac.Sign(w) > 0) {
					return
				}
			}
		}), o)
		if len(ends) != len(reach) || len(reach) > 0 && !reach[len(reach)-1] {
			t.Fatalf("%v and %v", ends, reach)
		}
		for i, w := range ends {
			if (frac.Sign(w) > 0) != reach[i] {
				t.Fatalf("%v and %v", ends, reach)
			}
			ended += frac.Sign(w)
		}
	}
	if ended < 200 {
		t.Errorf("only %d ends", ended)
	}
}
