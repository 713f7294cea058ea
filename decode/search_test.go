// Tests of P7.2: Decode.

package decode_test

import (
	"math/big"
	"math/rand"
	"slices"
	"testing"

	"earshot/api"
	"earshot/decode"
	"earshot/frac"
)

func TestDecodeExamples(t *testing.T) {
	x := simple(t)
	ten := api.Beam{Width: 10}
	for _, c := range []struct {
		o    []int
		b    api.Beam
		want string
	}{
		{[]int{0}, ten, "found true: +1.0.0.0, words [1], weight 1/24, bound 0, dropped 0, proved true"},
		{[]int{0, 1}, ten, "found true: +1.0.0.0 -1.0.0.0, words [1], weight 1/72, bound 0, dropped 0, proved true"},
		{nil, ten, "found true: , words [], weight 1/2, bound 0, dropped 0, proved true"},
		{[]int{0, 1}, api.Beam{Width: 1, Ratio: frac.Of(1)}, "found true: +1.0.0.0 -1.0.0.0, words [1], weight 1/72, bound 0, dropped 0, proved true"},
	} {
		if got := showReport(decoded(t, x, c.b, c.o)); got != c.want {
			t.Errorf("%v: %s", c.o, got)
		}
	}
}

// TestSearch compares Decode with the search as the chapter defines it.
func TestSearch(t *testing.T) {
	r := rand.New(rand.NewSource(1))
	found, lost, dropped, unproved := 0, 0, 0, 0
	for range 1500 {
		x := randomTask(t, r, small)
		b := randomBeam(r)
		if r.Intn(3) == 0 {
			b = whole()
		}
		o := randomRecording(r, x, r.Intn(7))
		got := decoded(t, x, b, o)
		if want := searched(x, b, o).report(); showReport(got) != want {
			t.Fatalf("%v with %v and %v: %s, not %s", o, b, x, showReport(got), want)
		}
		if !isCanonical(got.Weight) || !isCanonical(got.Bound) {
			t.Fatalf("not canonical: %v", got)
		}
		switch {
		case !got.Found:
			lost++
		case got.Proved:
			found++
		default:
			unproved++
		}
		dropped += min(got.Dropped, 1)
	}
	if found < 100 || lost < 100 || dropped < 100 || unproved < 100 {
		t.Errorf("%d found, %d lost, %d dropped, %d unproved", found, lost, dropped, unproved)
	}
}

// TestBestTrace compares with all traces: what Decode returns is the best one of all if nothing is dropped, and in any case no trace has a weight greater than the greater one of Weight and Bound.
func TestBestTrace(t *testing.T) {
	r := rand.New(rand.NewSource(2))
	for range 300 {
		x := randomTask(t, r, size{phones: 2, states: 2, symbols: 2, words: 2, variants: 2, spelled: 2, order: 3})
		o := randomRecording(r, x, r.Intn(5))
		best, weight, _ := bestOf(x, o)
		got := decoded(t, x, whole(), o)
		if got.Found != (weight.Sign() > 0) || showTrace(got.Trace) != showTrace(best) || valueOf(got.Weight).Cmp(weight) != 0 || got.Proved != got.Found {
			t.Fatalf("%v with %v: %s, not %s", o, x, showReport(got), showTrace(best))
		}
		got = decoded(t, x, randomBeam(r), o)
		if weight.Cmp(valueOf(got.Weight)) > 0 && weight.Cmp(valueOf(got.Bound)) > 0 {
			t.Fatalf("%v with %v: %s, although there is a trace with %s", o, x, showReport(got), weight.RatString())
		}
		if got.Proved && weight.Cmp(valueOf(got.Weight)) != 0 {
			t.Fatalf("%v with %v: %s is proved, not %s", o, x, showReport(got), weight.RatString())
		}
	}
}

// TestEqualWeights checks which of several traces with equal weights is the result, and which of several tokens with equal weights are kept.
func TestEqualWeights(t *testing.T) {
	// Two words sound alike, and going on in a word weighs as much as beginning it anew: the end 1/2, the word 1/3 and the variant 1 against the move 1/6 and the end of the recording.
	m := single(t, "1/6", "5/6", "1")
	same := taskOf(t, []api.Model{m}, []int{1}, []int{1})
	if got, want := showReport(decoded(t, same, whole(), []int{0})), "found true: +1.0.0.0, words [1], weight 5/54, bound 0, dropped 0, proved true"; got != want {
		t.Error(got)
	}
	if got, want := showReport(decoded(t, same, api.Beam{Width: 1}, []int{0})), "found true: +1.0.0.0, words [1], weight 5/54, bound 1/3, dropped 1, proved false"; got != want {
		t.Error(got)
	}
	equal := taskOf(t, []api.Model{single(t, "1/4", "3/4", "1")}, []int{1}, []int{1})
	if got, want := showReport(decoded(t, equal, whole(), []int{0, 0})), "found true: +1.0.0.0 -1.0.0.0, words [1], weight 1/48, bound 0, dropped 0, proved true"; got != want {
		t.Error(got)
	}
	for range 20 {
		if got, want := showReport(decoded(t, equal, api.Beam{Width: 1, Ratio: frac.Of(1)}, []int{0, 0, 0})), "found true: +1.0.0.0 -1.0.0.0 -1.0.0.0, words [1], weight 1/192, bound 1/3, dropped 3, proved false"; got != want {
			t.Fatal(got)
		}
	}
	for range 20 {
		if got, want := showReport(decoded(t, equal, api.Beam{Width: 2, Ratio: frac.Of(1)}, []int{0, 0, 0})), "found true: +1.0.0.0 -1.0.0.0 -1.0.0.0, words [1], weight 1/192, bound 0, dropped 0, proved true"; got != want {
			t.Fatal(got)
		}
	}
}

// TestRatio checks that tokens with exactly the Ratio are kept.
func TestRatio(t *testing.T) {
	x := taskOf(t, []api.Model{single(t, "1/2", "1/2", "1/3 2/3"), single(t, "1/2", "1/2", "1/6 5/6"), single(t, "1/2", "1/2", "1/12 11/12")}, []int{1}, []int{2}, []int{3})
	for _, c := range []struct {
		ratio   string
		dropped int
		bound   string
	}{
		{"0", 0, "0"}, {"1/4", 0, "0"}, {"251/1000", 1, "1/48"}, {"1/2", 1, "1/48"}, {"501/1000", 2, "1/24"}, {"1", 2, "1/24"},
	} {
		got := decoded(t, x, api.Beam{Width: 3, Ratio: f(t, c.ratio)}, []int{0})
		if got.Dropped != c.dropped || text(got.Bound) != c.bound || !slices.Equal(got.Words, []int{1}) {
			t.Errorf("%s: %s", c.ratio, showReport(got))
		}
	}
	got := decoded(t, x, api.Beam{Width: 1, Ratio: f(t, "1/3")}, []int{0})
	if got.Dropped != 2 || text(got.Bound) != "1/24" { // the second token is dropped by the Width, the third one by the Ratio
		t.Error(showReport(got))
	}
}

// TestBound checks that the bound is the greatest weight of a dropped token of all frames, and that a result that is as great is proved.
func TestBound(t *testing.T) {
	// The first word ends at once or never says the symbol 1; the second one stays for ever and is less likely.
	sudden, long := single(t, "0", "1", "1 0"), single(t, "1/2", "1/2", "1/2 1/2")
	x := taskOf(t, []api.Model{sudden, long}, []int{1}, []int{2})
	for _, c := range []struct {
		o    []int
		b    api.Beam
		want string
	}{
		{[]int{0}, api.Beam{Width: 1}, "found true: +1.0.0.0, words [1], weight 1/9, bound 1/6, dropped 1, proved false"},
		{[]int{0, 1}, api.Beam{Width: 1}, "found true: +1.0.0.0 +2.0.0.0, words [1 2], weight 1/108, bound 1/6, dropped 1, proved false"},
		{[]int{1}, api.Beam{Width: 1}, "found true: +2.0.0.0, words [2], weight 1/36, bound 0, dropped 0, proved true"},
		{[]int{1, 0}, api.Beam{Width: 1}, "found true: +2.0.0.0 -2.0.0.0, words [2], weight 1/144, bound 1/36, dropped 1, proved false"},
	} {
		if got := showReport(decoded(t, x, c.b, c.o)); got != c.want {
			t.Errorf("%v: %s", c.o, got)
		}
	}
	// Two words that say nothing else and end surely: the result weighs 1/9, as much as the token that was dropped weighs 1/3 at the first frame.
	y := taskOf(t, []api.Model{sudden}, []int{1}, []int{1})
	if got := decoded(t, y, api.Beam{Width: 1}, []int{0}); got.Proved || text(got.Bound) != "1/3" || text(got.Weight) != "1/9" {
		t.Error(showReport(got))
	}
	if got := decoded(t, y, whole(), []int{1}); got.Found || got.Proved || got.Trace != nil || got.Words != nil || !isZero(got.Weight) {
		t.Error(showReport(got))
	}
}

// TestProvedAtBound checks a result that weighs exactly as much as a token that was dropped.
func TestProvedAtBound(t *testing.T) {
	// Of the words, 1 ends surely; 2 begins with 1/4 of the weight of 1, since its symbol has 1/4. The marks and words have the weights 1/3: the result is 1/3 times 1/3; 2 is dropped with 1/3 times the weight of its symbol.
	for say, want := range map[string]bool{"1/3 2/3": true, "1/4 3/4": true, "34/100 66/100": false} {
		x := taskOf(t, []api.Model{single(t, "0", "1", "1 0"), single(t, "0", "1", say)}, []int{1}, []int{2})
		got := decoded(t, x, api.Beam{Width: 1}, []int{0})
		if got.Proved != want || text(got.Weight) != "1/9" || got.Dropped != 1 {
			t.Errorf("%s: %s", say, showReport(got))
		}
	}
}

// TestNoTokens checks recordings that nothing explains from some frame on.
func TestNoTokens(t *testing.T) {
	x := taskOf(t, []api.Model{single(t, "1/2", "1/2", "1 0 0"), single(t, "1/2", "1/2", "0 1 0")}, []int{1, 2})
	for _, c := range []struct {
		o    []int
		want string
	}{
		{[]int{0}, "found false: , words [], weight 0, bound 0, dropped 0, proved false"},
		{[]int{0, 1}, "found true: +1.0.0.0 -1.0.1.0, words [1], weight 1/16, bound 0, dropped 0, proved true"},
		{[]int{0, 2, 1, 0}, "found false: , words [], weight 0, bound 0, dropped 0, proved false"},
		{[]int{1}, "found false: , words [], weight 0, bound 0, dropped 0, proved false"},
	} {
		if got := showReport(decoded(t, x, whole(), c.o)); got != c.want {
			t.Errorf("%v: %s", c.o, got)
		}
	}
}

func TestDecodeErrors(t *testing.T) {
	x := simple(t)
	good := api.Beam{Width: 1}
	for _, n := range outside(1, api.MaxTokens) {
		if r, e := decode.Decode(x, api.Beam{Width: n}, nil); e != api.ErrArg || r.Found {
			t.Errorf("Width %d: %d", n, e)
		}
		if d, e := decode.New(x, api.Beam{Width: n}); e != api.ErrArg || d != nil {
			t.Errorf("New with the Width %d: %d", n, e)
		}
	}
	for s, want := range map[string]api.Errno{"0": api.OK, "1": api.OK, "1/2": api.OK, "-1/2": api.ErrArg, "3/2": api.ErrArg, "1000001/1000000": api.ErrArg} {
		if _, e := decode.Decode(x, api.Beam{Width: 1, Ratio: f(t, s)}, nil); e != want {
			t.Errorf("Ratio %s: %d", s, e)
		}
		if _, e := decode.New(x, api.Beam{Width: api.MaxTokens, Ratio: f(t, s)}); e != want {
			t.Errorf("New with the Ratio %s: %d", s, e)
		}
	}
	for _, k := range outside(0, 1) {
		if _, e := decode.Decode(x, good, []int{0, k}); e != api.ErrArg {
			t.Errorf("symbol %d: %d", k, e)
		}
	}
	long := make([]int, api.MaxFrames+1)
	if _, e := decode.Decode(x, api.Beam{}, long); e != api.ErrLong {
		t.Errorf("too long: %d", e)
	}
	if _, e := decode.Decode(api.Task{}, good, long); e != api.ErrLong {
		t.Errorf("too long, for no task: %d", e)
	}
	if r := decoded(t, x, good, long[1:]); !r.Found || len(r.Trace) != api.MaxFrames {
		t.Error("the longest recording")
	}
}

// crowd is a task that has 40 places at the first frame for each of its words.
func crowd(t *testing.T, words int) api.Task {
	t.Helper()
	m := api.Model{Start: slices.Repeat(fs(t, "1/40"), 40), End: slices.Repeat(fs(t, "1"), 40), Move: slices.Repeat([][]api.Frac{slices.Repeat(fs(t, "0"), 40)}, 40), Say: slices.Repeat([][]api.Frac{fs(t, "1/2 1/2")}, 40)}
	m.Say[39] = fs(t, "1 0")
	last := api.Model{Start: fs(t, "1"), End: fs(t, "1"), Move: [][]api.Frac{fs(t, "0")}, Say: [][]api.Frac{fs(t, "1 0")}}
	return taskOf(t, []api.Model{m, last}, append(slices.Repeat([][]int{{1}}, words), []int{2})...)
}

// TestMaxTokens checks the bound of the places of a frame, also if most tokens are dropped.
func TestMaxTokens(t *testing.T) {
	// With the symbol 0 there are 40 places for each word and one more for the last word; with the symbol 1 there are 39.
	for _, c := range []struct {
		words, symbol int
		want          api.Errno
	}{
		{499, 0, api.OK}, {500, 0, api.ErrLong}, {512, 1, api.OK}, {513, 1, api.ErrLong},
	} {
		x := crowd(t, c.words)
		r, e := decode.Decode(x, api.Beam{Width: 5}, []int{c.symbol})
		if e != c.want || e == api.OK && r.Dropped != (40-c.symbol)*c.words+1-c.symbol-5 || e != api.OK && r.Dropped != 0 {
			t.Errorf("%v: %d and %d dropped", c, e, r.Dropped)
		}
		if _, e := decode.Total(x, []int{c.symbol}); e != c.want {
			t.Errorf("%v: Total %d", c, e)
		}
		if p, e := decode.Prove(x, []int{c.symbol}); e != c.want || (e == api.OK) != (len(p.Frames) == 1) {
			t.Errorf("%v: Prove %d", c, e)
		}
	}
}

// TestMaxTokensWithin checks the bound where places are reached within phones only.
func TestMaxTokensWithin(t *testing.T) {
	m := api.Model{Start: append(fs(t, "1"), make([]api.Frac, 39)...), End: make([]api.Frac, 40), Move: slices.Repeat([][]api.Frac{slices.Repeat(fs(t, "1/40"), 40)}, 40), Say: slices.Repeat([][]api.Frac{fs(t, "1")}, 40)}
	for words, want := range map[int]api.Errno{500: api.OK, 501: api.ErrLong} {
		x := taskOf(t, []api.Model{m}, slices.Repeat([][]int{{1}}, words)...)
		if r, e := decode.Decode(x, whole(), []int{0, 0}); e != want || r.Found || r.Dropped != 0 {
			t.Errorf("%d words: %d", words, e)
		}
	}
}

// TestLongSentence checks a trace with more words than a sentence of layer 6 may have: its weight is still the product of all factors.
func TestLongSentence(t *testing.T) {
	x := taskOf(t, []api.Model{single(t, "0", "1", "1")}, []int{1})
	r := decoded(t, x, whole(), make([]int, 600))
	want := new(big.Rat).SetFrac(big.NewInt(1), new(big.Int).Lsh(big.NewInt(1), 601))
	expect(t, "Decode", r.Weight, api.OK, want)
	if len(r.Words) != 600 {
		t.Errorf("%d words", len(r.Words))
	}
	w, e := decode.Weight(x, make([]int, 600), r.Trace)
	expect(t, "Weight", w, e, want)
}
