// Tests of P7.6.

package decode_test

import (
	"math/big"
	"math/rand"
	"slices"
	"testing"

	"earshot/api"
	"earshot/decode"
	"earshot/frac"
	"earshot/gram"
	"earshot/lists"
	"earshot/model"
)

// TestRenamedSymbols checks that no result changes if symbols are renamed.
func TestRenamedSymbols(t *testing.T) {
	r := rand.New(rand.NewSource(17))
	for range 200 {
		x, b := randomTask(t, r, small), randomBeam(r)
		names := r.Perm(len(x.Phones[0].Say[0]))
		y := x
		y.Phones = lists.Map(x.Phones, func(m api.Model) api.Model {
			m.Say = lists.Map(m.Say, func(row []api.Frac) []api.Frac {
				renamed := make([]api.Frac, len(row))
				for k, w := range row {
					renamed[names[k]] = w
				}
				return renamed
			})
			return m
		})
		o := randomRecording(r, x, r.Intn(6))
		p := lists.Map(o, func(k int) int { return names[k] })
		if showReport(decoded(t, x, b, o)) != showReport(decoded(t, y, b, p)) || showProof(proved(t, x, o)) != showProof(proved(t, y, p)) {
			t.Fatalf("%v and %v with %v", o, p, x)
		}
		v, e := decode.Total(x, o)
		w, e2 := decode.Total(y, p)
		if e != api.OK || e2 != api.OK || text(v) != text(w) {
			t.Fatalf("Total: %s and %s", text(v), text(w))
		}
	}
}

// TestOneWord compares the part of Total that belongs to traces with one word with the likelihood of the recording for the models of its phones.
func TestOneWord(t *testing.T) {
	r := rand.New(rand.NewSource(18))
	positive := 0
	for range 300 {
		x := randomTask(t, r, size{phones: 2, states: 2, symbols: 2, words: 1, variants: 1, spelled: 3, order: 3})
		o := randomRecording(r, x, 1+r.Intn(5))
		alone := new(big.Rat)
		for _, trace := range traces(x, len(o)) {
			words := decode.Words(trace)
			if len(words) == 0 {
				t.Fatalf("%s has no words", showTrace(trace))
			}
			if len(words) == 1 {
				w, e := decode.Weight(x, o, trace)
				if e != api.OK {
					t.Fatalf("Weight: error %d", e)
				}
				alone.Add(alone, valueOf(w))
			}
		}
		var phones []api.Model
		for _, n := range x.Words[0][0].Phones {
			phones = append(phones, x.Phones[n-1])
		}
		joined, e := model.Join(phones...)
		if e != api.OK {
			t.Fatalf("Join: error %d", e)
		}
		likelihood, e := model.Likelihood(joined, o)
		if e != api.OK {
			t.Fatalf("Likelihood: error %d", e)
		}
		sentence, e := gram.Sentence(x.Language, []int{1})
		expect(t, "the traces with one word", frac.Mul(sentence, likelihood), e, alone)
		positive += alone.Sign()
	}
	if positive < 50 {
		t.Errorf("only %d were positive", positive)
	}
}

// TestOneWordAlone checks the same for a word that nothing can follow, so that all of Total belongs to it.
func TestOneWordAlone(t *testing.T) {
	r := rand.New(rand.NewSource(19))
	for range 50 {
		// The last phone says a symbol that no other one says, so that the word ends where this symbol ends.
		last := single(t, "1/3", "2/3", "0 0 1")
		first := randomModel(r, 2, 2)
		for i, row := range first.Say {
			first.Say[i] = append(slices.Clone(row), api.Frac{})
		}
		x := taskOf(t, []api.Model{first, last}, []int{1, 2})
		o := append(slices.Repeat([]int{r.Intn(2)}, 1+r.Intn(4)), 2, 2)
		joined, e := model.Join(first, last)
		if e != api.OK {
			t.Fatal(e)
		}
		likelihood, e := model.Likelihood(joined, o)
		if e != api.OK {
			t.Fatal(e)
		}
		total, e := decode.Total(x, o)
		expect(t, "Total", total, e, product(valueOf(likelihood), big.NewRat(1, 4)))
	}
}
