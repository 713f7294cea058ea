// Tests of P7.4: Total.

package decode_test

import (
	"math/big"
	"math/rand"
	"testing"

	"earshot/api"
	"earshot/decode"
)

func TestTotalExamples(t *testing.T) {
	for _, c := range []struct {
		o    []int
		want string
	}{
		{nil, "1/2"}, {[]int{0}, "1/24"}, {[]int{0, 1}, "1/48"},
	} {
		w, e := decode.Total(simple(t), c.o)
		expect(t, "Total", w, e, valueOf(f(t, c.want)))
	}
}

// TestTotal compares with the sum over all traces, which is at least the weight of the best one and at most 1.
func TestTotal(t *testing.T) {
	r := rand.New(rand.NewSource(10))
	positive, nothing := 0, 0
	for range 300 {
		x := randomTask(t, r, size{phones: 2, states: 2, symbols: 2, words: 2, variants: 2, spelled: 2, order: 4})
		o := randomRecording(r, x, r.Intn(5))
		_, best, total := bestOf(x, o)
		w, e := decode.Total(x, o)
		expect(t, "Total", w, e, total)
		if total.Cmp(best) < 0 || total.Cmp(one) > 0 {
			t.Fatalf("%v with %v: %s", o, x, total.RatString())
		}
		if total.Sign() > 0 {
			positive++
		} else {
			nothing++
		}
	}
	if positive < 50 || nothing < 50 {
		t.Errorf("%d and %d", positive, nothing)
	}
}

// TestTotalOfTotals checks that the totals of all recordings of some length have a sum of at most 1 (P0.6).
func TestTotalOfTotals(t *testing.T) {
	r := rand.New(rand.NewSource(11))
	for range 60 {
		x := randomTask(t, r, small)
		for frames := range 4 {
			all := new(big.Rat)
			for _, o := range recordings(len(x.Phones[0].Say[0]), frames) {
				w, e := decode.Total(x, o)
				if e != api.OK {
					t.Fatalf("Total: error %d", e)
				}
				all.Add(all, valueOf(w))
			}
			if all.Sign() < 0 || all.Cmp(one) > 0 {
				t.Fatalf("%d frames with %v: %s", frames, x, all.RatString())
			}
		}
	}
}

// TestTotalOfLongRecording checks the longest recording: one state goes on or begins a word anew at each frame.
func TestTotalOfLongRecording(t *testing.T) {
	// Each further frame has the weight 1/2 (to stay) or 1/2 times 1/2 (to leave, and to begin the word again), together 3/4, and 1/3 for its symbol. The first frame has 1/2 times 1/3, the end 1/2 times 1/2.
	want := big.NewRat(1, 24)
	for range api.MaxFrames - 1 {
		want.Mul(want, big.NewRat(1, 4))
	}
	w, e := decode.Total(simple(t), make([]int, api.MaxFrames))
	expect(t, "Total", w, e, want)
}

func TestTotalErrors(t *testing.T) {
	for _, k := range outside(0, 1) {
		if w, e := decode.Total(simple(t), []int{k}); e != api.ErrArg || !isZero(w) {
			t.Errorf("symbol %d: error %d", k, e)
		}
		if p, e := decode.Prove(simple(t), []int{k}); e != api.ErrArg || p.Frames != nil {
			t.Errorf("Prove for the symbol %d: error %d", k, e)
		}
	}
	if w, e := decode.Total(simple(t), make([]int, api.MaxFrames+1)); e != api.ErrLong || !isZero(w) {
		t.Errorf("too long: error %d", e)
	}
	if p, e := decode.Prove(simple(t), make([]int, api.MaxFrames+1)); e != api.ErrLong || p.Frames != nil {
		t.Errorf("Prove, too long: error %d", e)
	}
}
