// Tests of P10.6 and P0.7.

package talk_test

import (
	"math/rand"
	"slices"
	"testing"

	"earshot/api"
	"earshot/frac"
)

// TestAllSaid checks that a new dialogue is done after it heard, for each slot, one of its values with the weight 1, in any order.
func TestAllSaid(t *testing.T) {
	r := rand.New(rand.NewSource(16))
	for range 500 {
		p := randomPlan(r)
		d := dialogue(t, p)
		at := 0
		for i, slot := range r.Perm(len(p.Slots)) {
			s, _ := d.Stand()
			if s.Done {
				t.Fatalf("done after %d of %d values", i, len(p.Slots))
			}
			values := p.Slots[slot].Values
			at += r.Intn(3)
			expect(t, "Hear", d.Hear(api.Event{Kind: api.EventValue, Value: values[r.Intn(len(values))], Weight: frac.Of(1), At: at}))
		}
		if s, _ := d.Stand(); !s.Done || s.GivenUp || s.Failures != 0 {
			t.Fatalf("%+v", s)
		}
	}
}

// TestGivenUp checks that a dialogue that was given up heard more than Patience events in a row that failed, and that it is given up then.
func TestGivenUp(t *testing.T) {
	r := rand.New(rand.NewSource(17))
	times := 0
	for range 3000 {
		p := randomPlan(r)
		d := dialogue(t, p)
		at, failed := 0, 0
		for {
			e := randomEvent(r, at)
			at = e.At
			expect(t, "Hear", d.Hear(e))
			s, _ := d.Stand()
			if failed++; s.Failures == 0 {
				failed = 0
			}
			if s.Failures != failed || s.GivenUp != (failed > p.Patience) {
				t.Fatalf("%d events failed, patience %d: %+v", failed, p.Patience, s)
			}
			if s.GivenUp {
				times++
			}
			if s.GivenUp || s.Done {
				break
			}
		}
	}
	if times < 500 {
		t.Errorf("%d dialogues were given up", times)
	}
	for patience := range 4 {
		p := color(t)
		p.Patience = patience
		d := dialogue(t, p)
		for i := range patience + 1 {
			if s, _ := d.Stand(); s.GivenUp {
				t.Errorf("patience %d: given up after %d", patience, i)
			}
			hear(t, d, "1 0 nothing")
		}
		if s, _ := d.Stand(); !s.GivenUp || s.Failures != patience+1 {
			t.Errorf("patience %d: %+v", patience, s)
		}
	}
}

// TestOtherWords checks that words that are neither values, nor yes or no, do not change a dialogue unless nothing else was said, even if they are names of slots.
func TestOtherWords(t *testing.T) {
	r := rand.New(rand.NewSource(18))
	s := simple(t)
	s.Plan = two(t)
	s.Plan.Slots[0].Sure = frac.Of(1)
	s.Plan.Patience = 3
	s.Names[4] = "color" // with the symbol 5
	kinds := []api.EventKind{api.EventYes, api.EventNo, api.EventValue, api.EventValue}
	for range 300 {
		var symbols []int
		want := standingOf(s.Plan)
		for range r.Intn(12) {
			symbols = append(symbols, 0)
			at := len(symbols)
			for range 1 + r.Intn(3) {
				word := r.Intn(4)
				symbols = append(symbols, 5, 1+word, 5)
				e := api.Event{Kind: kinds[word], Weight: frac.Of(1), At: at}
				if e.Kind == api.EventValue {
					e.Value = s.Names[word]
				}
				if want.question() != nil {
					want.hear(e)
				}
			}
		}
		if _, got := replay(t, s, sound(symbols...)); !same(got, want.stand()) {
			t.Fatalf("%v: %+v, not %+v", symbols, got, want.stand())
		}
	}
	// Nothing else was said: this is as if nothing was said.
	_, got := replay(t, s, sound(0, 5, 5, 0))
	want := standingOf(s.Plan)
	want.hear(api.Event{Kind: api.EventNothing, At: 1})
	if !same(got, want.stand()) {
		t.Errorf("%+v, not %+v", got, want.stand())
	}
}

// TestSettled checks that the dialogue of a session settles a slot only by what was said with enough weight.
func TestSettled(t *testing.T) {
	r := rand.New(rand.NewSource(19))
	grounded := 0
	for range 150 {
		s := randomSetup(t, r)
		turns, standing := replay(t, s, randomSpeech(r, 120))
		for i, slot := range standing.Slots {
			if slot.Status != api.StatusGrounded {
				continue
			}
			grounded++
			enough := slices.ContainsFunc(turns, func(turn api.Turn) bool {
				for j, word := range turn.Words {
					if word == slot.Value && atLeast(turn.Weights[j], s.Plan.Slots[i].Least) {
						return true
					}
				}
				return false
			})
			if !enough {
				t.Fatalf("%+v was never said with enough weight: %+v", slot, turns)
			}
		}
	}
	if grounded < 10 {
		t.Errorf("%d slots were grounded", grounded)
	}
}
