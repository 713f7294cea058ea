package speech_test

import (
	"math/rand"
	"slices"
	"testing"

	"earshot/api"
	"earshot/frac"
	"earshot/gram"
	"earshot/speech"
)

// TestWeights compares with the weights of sentences, and with those of each word for a sentence that layer 6 refuses.
func TestWeights(t *testing.T) {
	r := rand.New(rand.NewSource(1))
	for order := 1; order <= api.MaxOrder; order++ {
		table, e := gram.Count(order, 3, []int{1, 2, 1, 2}, []int{2, 2})
		if e != api.OK {
			t.Fatalf("Count: error %d", e)
		}
		l := api.Language{Table: table, By: api.Typed}
		for range 20 {
			s := make([]int, r.Intn(8))
			for i := range s {
				s[i] = 1 + r.Intn(3)
			}
			want, e := gram.Sentence(l, s)
			weights := speech.Weights(l, s)
			if got := frac.Product(weights...); e != api.OK || len(weights) != len(s)+1 || frac.Cmp(got, want) != 0 {
				t.Errorf("%v: %d weights, together %s, not %s", s, len(weights), frac.Text(got), frac.Text(want))
			}
		}
		weights := speech.Weights(l, slices.Repeat([]int{1}, api.MaxText+1))
		last, e := gram.Weight(l, slices.Repeat([]int{1}, order-1), 0)
		if e != api.OK || len(weights) != api.MaxText+2 || frac.Cmp(weights[api.MaxText+1], last) != 0 {
			t.Errorf("%d weights", len(weights))
		}
	}
}
