package decode

import (
	"testing"

	"earshot/api"
	"earshot/frac"
	"earshot/gram"
)

// TestRowsAreForgotten checks that a network remembers only so many weights of words, and that they are right afterwards.
func TestRowsAreForgotten(t *testing.T) {
	const words = api.MaxWords
	table := api.Table{Order: 2, Words: words, List: []api.Gram{{Words: []int{0, 7}, N: 3}, {Words: []int{5, 0}, N: 2}}}
	n := build(api.Task{Language: api.Language{Table: table, By: api.Added, Amount: frac.Of(1)}})
	most := mostWeights / (words + 1)
	for w := range most + 2 {
		n.row(history{w})
		if len(n.rows) > most {
			t.Fatalf("%d rows are remembered", len(n.rows))
		}
	}
	if len(n.rows) != 2 {
		t.Errorf("%d rows are remembered", len(n.rows))
	}
	for _, h := range []int{0, 5, most, most + 1} {
		for _, w := range []int{0, 1, 7, words} {
			want, e := gram.Weight(n.language, []int{h}, w)
			if e != api.OK || frac.Cmp(n.row(history{h})[w].Exact(), want) != 0 {
				t.Errorf("%d after %d: %s", w, h, frac.Text(n.row(history{h})[w].Exact()))
			}
		}
		want, _ := gram.Weight(n.language, []int{h}, 0)
		if frac.Cmp(n.mark(door{history: history{h}}).Exact(), want) != 0 || frac.Cmp(n.mark(door{history: history{h + 10}}).Exact(), frac.Of(0)) <= 0 {
			t.Errorf("the mark after %d", h)
		}
	}
}

// TestMarksWithoutRows checks that a mark alone needs no row.
func TestMarksWithoutRows(t *testing.T) {
	table := api.Table{Order: 3, Words: 2, List: []api.Gram{{Words: []int{0, 0, 1}, N: 1}, {Words: []int{0, 1, 0}, N: 4}}}
	n := build(api.Task{Language: api.Language{Table: table, By: api.Typed}})
	h := history{0, 1}
	alone := n.mark(door{history: h})
	if len(n.rows) != 0 {
		t.Errorf("%d rows", len(n.rows))
	}
	if row := n.row(h); frac.Cmp(alone.Exact(), row[0].Exact()) != 0 || n.mark(door{history: h}) != row[0] {
		t.Errorf("%s and %s", frac.Text(alone.Exact()), frac.Text(row[0].Exact()))
	}
	if n.mark(door{history: h, word: 1, phone: 1}) != nil {
		t.Error("a mark within a word")
	}
}

// TestNext checks histories of all lengths against layer 6.
func TestNext(t *testing.T) {
	for order := 1; order <= api.MaxOrder; order++ {
		l := api.Language{Table: api.Table{Order: order, Words: 9}, By: api.Typed}
		n := build(api.Task{Language: l})
		h := history{}
		list := make([]int, order-1)
		for w := 1; w <= 9; w++ {
			h = n.next(h, w)
			var e api.Errno
			if list, e = gram.Next(l, list, w); e != api.OK {
				t.Fatalf("Next: error %d", e)
			}
			want := history{}
			copy(want[:], list)
			if h != want {
				t.Errorf("order %d: %v, not %v", order, h, want)
			}
		}
	}
}
