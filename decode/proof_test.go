// Tests of P7.5: Prove and Verify.

package decode_test

import (
	"math/big"
	"math/rand"
	"slices"
	"testing"

	"earshot/api"
	"earshot/decode"
	"earshot/frac"
)

// proved is what Prove returns, which must not fail.
func proved(t *testing.T, x api.Task, o []int) api.Proof {
	t.Helper()
	p, e := decode.Prove(x, o)
	if e != api.OK {
		t.Fatalf("Prove: error %d", e)
	}
	return p
}

func TestProofExamples(t *testing.T) {
	if got := showProof(proved(t, simple(t), []int{0})); got != "[]/1.0.0.0: 1/4" {
		t.Error(got)
	}
	if p := proved(t, simple(t), nil); len(p.Frames) != 0 {
		t.Error(showProof(p))
	}
	// The word 1 has the symbol 0 alone and never ends before another one: of the frames, the last one has only values that are 0.
	x := taskOf(t, []api.Model{single(t, "1/2", "1/2", "1 0"), single(t, "1/2", "1/2", "0 1")}, []int{1, 2})
	if got, want := showProof(proved(t, x, []int{0, 1, 0})), "[]/1.0.0.0: 0\n[]/1.0.1.0: 0\n[]/1.0.0.0: 0"; got != want {
		t.Error(got)
	}
	if got, want := showProof(proved(t, x, []int{1, 0})), "\n"; got != want {
		t.Errorf("%q", got)
	}
}

// TestProve compares with the definition.
func TestProve(t *testing.T) {
	r := rand.New(rand.NewSource(12))
	values, nothing := 0, 0
	for range 400 {
		x := randomTask(t, r, small)
		o := randomRecording(r, x, r.Intn(5))
		p := proved(t, x, o)
		if got, want := showProof(p), proofOf(x, o); got != want || len(p.Frames) != len(o) {
			t.Fatalf("%v with %v: %s, not %s", o, x, got, want)
		}
		for _, v := range slices.Concat(p.Frames...) {
			values++
			if !isCanonical(v.Left) {
				t.Fatalf("%v is not canonical", v.Left)
			}
			if isZero(v.Left) {
				nothing++
			}
		}
	}
	if values < 1000 || nothing < 100 {
		t.Errorf("%d values, %d of them 0", values, nothing)
	}
}

// TestProofHolds checks that Verify accepts the proof for the weight of the best trace and every greater one, but none that is less.
func TestProofHolds(t *testing.T) {
	r := rand.New(rand.NewSource(13))
	for range 300 {
		x := randomTask(t, r, small)
		o := randomRecording(r, x, r.Intn(8))
		p := proved(t, x, o)
		best := decoded(t, x, whole(), o).Weight
		nearly := frac.Mul(best, f(t, "999999999999999999999999999999/1000000000000000000000000000000"))
		for _, c := range []struct {
			weight api.Frac
			want   bool
		}{
			{best, true}, {frac.Add(best, f(t, "1/1000000000000000000000000")), true}, {frac.Of(1), true}, {frac.Of(7), true}, {disguised(r, best), true}, {nearly, frac.Sign(best) == 0}, {frac.Of(0), frac.Sign(best) == 0}, {frac.Neg(best), frac.Sign(best) == 0}, {frac.Of(-1), false}, {f(t, "-1/1000"), false},
		} {
			if got := decode.Verify(x, o, c.weight, p); got != c.want {
				t.Fatalf("%v with %v and the weight %s: %v", o, x, text(c.weight), got)
			}
		}
	}
}

// disguised returns a number that is not canonical and has the value of x, which is not negative.
func disguised(r *rand.Rand, x api.Frac) api.Frac {
	x = frac.Canon(x)
	if len(x.D) == 0 {
		x.D = []uint32{1}
	}
	low := slices.Repeat([]uint32{0}, r.Intn(2))
	return api.Frac{Neg: len(x.N) == 0 && r.Intn(2) == 0, N: slices.Concat(low, x.N, []uint32{0}), D: slices.Concat(low, x.D, []uint32{0})}
}

// copyProof returns a copy of a proof.
func copyProof(p api.Proof) api.Proof {
	p.Frames = slices.Clone(p.Frames)
	for i, values := range p.Frames {
		p.Frames[i] = slices.Clone(values)
		for k, v := range values {
			v.History, v.Left = slices.Clone(v.History), copyNumber(v.Left)
			p.Frames[i][k] = v
		}
	}
	return p
}

func copyNumber(a api.Frac) api.Frac {
	return api.Frac{Neg: a.Neg, N: slices.Clone(a.N), D: slices.Clone(a.D)}
}

// spoilProof changes a proof: it may hold afterwards.
func spoilProof(r *rand.Rand, x api.Task, p *api.Proof) {
	edges := edgeInts()
	edge := func() int { return edges[r.Intn(len(edges))] }
	if r.Intn(20) == 0 {
		p.Frames = p.Frames[:len(p.Frames)-1]
		return
	}
	values := &p.Frames[r.Intn(len(p.Frames))]
	if len(*values) == 0 || r.Intn(6) == 0 {
		*values = append(*values, randomValue(r, x))
		if r.Intn(4) > 0 {
			arrange(*values)
		}
		return
	}
	i := r.Intn(len(*values))
	v := &(*values)[i]
	switch r.Intn(9) {
	case 0:
		*values = slices.Delete(*values, i, i+1)
	case 1:
		*values = slices.Insert(*values, i, *v)
	case 2:
		k := r.Intn(len(*values))
		(*values)[i], (*values)[k] = (*values)[k], (*values)[i]
	case 3:
		v.Left = frac.Mul(v.Left, fraction(r, 1+r.Intn(4), 1+r.Intn(4)))
	case 4:
		v.Left = frac.Sub(v.Left, fraction(r, r.Intn(2), 1000))
	case 5:
		v.Left = disguised(r, frac.Add(v.Left, fraction(r, 1, 1000)))
	case 6:
		if len(v.History) > 0 && r.Intn(2) == 0 {
			v.History[r.Intn(len(v.History))] = edge()
		} else {
			v.History = append(v.History, v.Word)
		}
	case 7:
		*[]*int{&v.Word, &v.Variant, &v.Phone, &v.State}[r.Intn(4)] = edge()
	case 8:
		*[]*int{&v.Word, &v.Variant, &v.Phone, &v.State}[r.Intn(4)] += 1 - 2*r.Intn(2)
	}
}

// randomValue returns a value of any place of a task.
func randomValue(r *rand.Rand, x api.Task) api.Value {
	points := allPoints(x)
	p := points[r.Intn(len(points))]
	history := start(x)
	for i := range history {
		if history[i] = r.Intn(len(x.Words) + 1); i == len(history)-1 {
			history[i] = p.Word
		}
	}
	return api.Value{History: history, Word: p.Word, Variant: p.Variant, Phone: p.Phone, State: p.State, Left: fraction(r, r.Intn(3), 2)}
}

// arrange puts values in order.
func arrange(values []api.Value) {
	slices.SortFunc(values, func(a, b api.Value) int {
		if order := slices.Compare(a.History, b.History); order != 0 {
			return order
		}
		return comparePoints(pointOf(a), pointOf(b))
	})
}

// TestVerify compares with the definition, for proofs that were changed, and for weights near the greatest one.
func TestVerify(t *testing.T) {
	r := rand.New(rand.NewSource(14))
	accepted, refused := 0, 0
	for range 200 {
		x := randomTask(t, r, size{phones: 2, states: 2, symbols: 2, words: 2, variants: 2, spelled: 2, order: 3})
		o := randomRecording(r, x, 1+r.Intn(3))
		p := proved(t, x, o)
		best := decoded(t, x, whole(), o).Weight
		_, greatest, _ := bestOf(x, o)
		for range 25 {
			wrong := copyProof(p)
			for range 1 + r.Intn(2) {
				if len(wrong.Frames) > 0 {
					spoilProof(r, x, &wrong)
				}
			}
			weight := frac.Mul(best, fraction(r, 3+r.Intn(3), 4))
			want := holds(x, o, valueOf(weight), wrong)
			if got := decode.Verify(x, o, weight, wrong); got != want {
				t.Fatalf("%v with %v and the weight %s: %v for\n%s", o, x, text(weight), got, showProof(wrong))
			}
			if want {
				accepted++
			} else {
				refused++
			}
			if want && greatest.Cmp(valueOf(weight)) > 0 {
				t.Fatalf("a proof for %s, although a trace has the weight %s", text(weight), greatest.RatString())
			}
		}
	}
	if accepted < 300 || refused < 1000 {
		t.Errorf("%d accepted, %d refused", accepted, refused)
	}
}

// everywhere returns a proof with a value for each possible place, which is 1.
func everywhere(x api.Task, frames int) api.Proof {
	histories := [][]int{nil}
	for range start(x) {
		var longer [][]int
		for _, h := range histories {
			for w := range len(x.Words) + 1 {
				longer = append(longer, append(slices.Clone(h), w))
			}
		}
		histories = longer
	}
	var values []api.Value
	for _, h := range histories {
		for _, p := range allPoints(x) {
			if !p.New && (len(h) == 0 || h[len(h)-1] == p.Word) {
				values = append(values, api.Value{History: h, Word: p.Word, Variant: p.Variant, Phone: p.Phone, State: p.State, Left: frac.Of(1)})
			}
		}
	}
	arrange(values)
	return api.Proof{Frames: slices.Repeat([][]api.Value{values}, frames)}
}

// TestCrudeProofs checks proofs that Prove does not write: with values for all possible places, that are all 1. They hold for the weight 1, also at places that no trace reaches.
func TestCrudeProofs(t *testing.T) {
	r := rand.New(rand.NewSource(15))
	for range 100 {
		x := randomTask(t, r, small)
		o := randomRecording(r, x, r.Intn(4))
		p := everywhere(x, len(o))
		if !decode.Verify(x, o, frac.Of(1), p) || !holds(x, o, one, p) {
			t.Fatalf("%v with %v", o, x)
		}
	}
}

// TestVerifyArguments checks tasks, recordings and weights that are not valid.
func TestVerifyArguments(t *testing.T) {
	x := simple(t)
	p := proved(t, x, []int{0})
	weight := f(t, "1/24")
	if !decode.Verify(x, []int{0}, weight, p) {
		t.Error("a proof that holds")
	}
	for _, k := range outside(0, 1) {
		if decode.Verify(x, []int{k}, frac.Of(1), p) {
			t.Errorf("symbol %d", k)
		}
	}
	if decode.Verify(api.Task{}, []int{0}, weight, p) || decode.Verify(x, nil, frac.Of(1), p) || decode.Verify(x, []int{0, 0}, frac.Of(1), p) || decode.Verify(x, []int{0}, frac.Of(-1), p) {
		t.Error("a wrong task, length or weight")
	}
	longest := make([]int, api.MaxFrames)
	crude := everywhere(x, api.MaxFrames)
	if !decode.Verify(x, longest, frac.Of(1), crude) {
		t.Error("the longest recording")
	}
	crude.Frames = append(crude.Frames, crude.Frames[0])
	if decode.Verify(x, append(longest, 0), frac.Of(1), crude) {
		t.Error("a recording that is too long")
	}
	if !decode.Verify(x, nil, f(t, "1/2"), api.Proof{}) || decode.Verify(x, nil, f(t, "499/1000"), api.Proof{}) || decode.Verify(x, nil, frac.Of(1), api.Proof{Frames: make([][]api.Value, 1)}) {
		t.Error("no frames")
	}
}

// TestProofOfLongRecording checks a long proof: numbers with hundreds of digits are compared exactly.
func TestProofOfLongRecording(t *testing.T) {
	x := taskOf(t, []api.Model{single(t, "1/2", "1/2", "1/3 2/3"), single(t, "4/7", "3/7", "2/5 3/5")}, []int{1}, []int{2}, []int{1, 2})
	r := rand.New(rand.NewSource(16))
	o := randomRecording(r, x, 300)
	p := proved(t, x, o)
	best := decoded(t, x, whole(), o)
	nearly := frac.Sub(best.Weight, frac.Mul(best.Weight, power(t, "1/1000", 400)))
	if !decode.Verify(x, o, best.Weight, p) || decode.Verify(x, o, nearly, p) {
		t.Error("the weight of the best trace, or less")
	}
	w, e := decode.Weight(x, o, best.Trace)
	expect(t, "Weight", w, e, valueOf(best.Weight))
	for _, frame := range []int{0, 150, 299} {
		wrong := copyProof(p)
		for i, v := range wrong.Frames[frame] {
			wrong.Frames[frame][i].Left = frac.Sub(v.Left, frac.Mul(v.Left, power(t, "1/1000", 400)))
		}
		if decode.Verify(x, o, frac.Of(1), wrong) {
			t.Errorf("values of the frame %d that are too small", frame)
		}
	}
}

func power(t *testing.T, s string, n int) api.Frac {
	t.Helper()
	a, e := frac.Pow(f(t, s), n)
	if e != api.OK {
		t.Fatal(e)
	}
	return a
}

// TestProofOfNothing checks a recording that no trace explains: the proof holds for the weight 0.
func TestProofOfNothing(t *testing.T) {
	x := taskOf(t, []api.Model{single(t, "1/2", "1/2", "1 0"), single(t, "1/2", "1/2", "0 1")}, []int{1, 2})
	for _, o := range [][]int{{0}, {1}, {0, 1, 0}} {
		p := proved(t, x, o)
		if !decode.Verify(x, o, api.Frac{}, p) || !holds(x, o, new(big.Rat), p) {
			t.Errorf("%v: %s", o, showProof(p))
		}
	}
}
