// Tests of P2.4 (Window, Weigh) and of the energy of weighed frames (P2.5).

package wave_test

import (
	"math"
	"math/big"
	"math/rand"
	"slices"
	"testing"

	"earshot/api"
	"earshot/wave"
)

// kinds returns all kinds of windows.
func kinds() []api.WindowKind {
	return []api.WindowKind{api.WindowFlat, api.WindowTriangle, api.WindowWelch}
}

// weightOf returns the weight i of a window, computed without this package.
func weightOf(kind api.WindowKind, i, size int) int {
	part := big.NewRat(int64(2*i-(size-1)), int64(size+1))
	part.Abs(part)
	switch kind {
	case api.WindowFlat:
		return 4096
	case api.WindowWelch:
		part.Mul(part, part)
	}
	weight := new(big.Rat).Sub(big.NewRat(1, 1), part)
	weight.Mul(weight, big.NewRat(4096, 1))
	weight.Add(weight, big.NewRat(1, 2))
	return int(new(big.Int).Quo(weight.Num(), weight.Denom()).Int64())
}

func TestWindowExamples(t *testing.T) {
	for _, c := range []struct {
		kind api.WindowKind
		want []int
	}{
		{api.WindowFlat, []int{4096, 4096}}, {api.WindowFlat, []int{4096}},
		{api.WindowTriangle, []int{4096}}, {api.WindowTriangle, []int{2731, 2731}}, {api.WindowTriangle, []int{2048, 4096, 2048}}, {api.WindowTriangle, []int{1638, 3277, 3277, 1638}},
		{api.WindowWelch, []int{4096}}, {api.WindowWelch, []int{3641, 3641}}, {api.WindowWelch, []int{3072, 4096, 3072}}, {api.WindowWelch, []int{2621, 3932, 3932, 2621}},
	} {
		got, e := wave.Window(c.kind, len(c.want))
		expectList(t, "Window", got, e, c.want...)
	}
}

// sizes returns many sizes of windows, the least and the greatest one among them.
func sizes() []int {
	list := []int{255, 256, 400, 1000, 4095, api.MaxFrame}
	for size := 1; size <= 70; size++ {
		list = append(list, size)
	}
	return list
}

// TestWindowDefinition compares with the definition, and checks that windows are symmetric, and greatest in the middle.
func TestWindowDefinition(t *testing.T) {
	for _, kind := range kinds() {
		for _, size := range sizes() {
			want := make([]int, size)
			for i := range want {
				want[i] = weightOf(kind, i, size)
			}
			got, e := wave.Window(kind, size)
			expectList(t, "Window", got, e, want...)
			if len(got) != size {
				continue
			}
			turned := slices.Clone(got)
			slices.Reverse(turned)
			expectList(t, "the window turned round", turned, e, got...)
			if slices.Max(got) != got[size/2] || slices.Max(got) > 4096 || slices.Min(got) < 0 || size%2 == 1 && got[size/2] != 4096 {
				t.Errorf("kind %d, size %d: %v", kind, size, short(got))
			}
		}
	}
}

func TestWindowErrors(t *testing.T) {
	for _, n := range edgeInts() {
		if n < 1 || n > api.MaxFrame {
			for _, kind := range kinds() {
				got, e := wave.Window(kind, n)
				expectNoList(t, "the size", got, e, api.ErrArg)
			}
		}
		if n < 1 || n > 3 {
			for _, size := range []int{1, 3, api.MaxFrame, 0} {
				got, e := wave.Window(api.WindowKind(n), size)
				expectNoList(t, "the kind", got, e, api.ErrArg)
			}
		}
	}
}

func TestWeighExamples(t *testing.T) {
	for _, c := range []struct {
		kind api.WindowKind
		x    []int
		want []int
	}{
		{api.WindowTriangle, []int{100, 100, -3}, []int{50, 100, -2}},
		{api.WindowTriangle, []int{3, -5, 1}, []int{2, -5, 1}},
		{api.WindowWelch, []int{2, 7, -2}, []int{2, 7, -2}},
		{api.WindowWelch, []int{api.MaxValue, 0, -api.MaxValue}, []int{1610612735, 0, -1610612735}},
		{api.WindowFlat, []int{api.MaxValue, -api.MaxValue, 0, 1}, []int{api.MaxValue, -api.MaxValue, 0, 1}},
		{api.WindowTriangle, []int{-9}, []int{-9}},
	} {
		got, e := wave.Weigh(c.x, c.kind)
		expectList(t, "Weigh", got, e, c.want...)
	}
}

// TestWeighRandomly compares with the definition, and checks that the energy does not grow.
func TestWeighRandomly(t *testing.T) {
	r := rand.New(rand.NewSource(8))
	for i := range 1500 {
		bound := []int{5, 32767, 65535, api.MaxValue}[i%4]
		x := append(randomList(r, 40, bound), r.Intn(3)-1)
		for _, kind := range kinds() {
			want := make([]int, len(x))
			for i := range x {
				want[i] = nearest(x[i]*weightOf(kind, i, len(x)), 4096)
			}
			got, e := wave.Weigh(x, kind)
			expectList(t, "Weigh", got, e, want...)
			if bound <= 65535 {
				before, e := wave.Energy(x)
				after, f := wave.Energy(got)
				if e != api.OK || f != api.OK || after > before {
					t.Errorf("the energy %d becomes %d, errors %d and %d", before, after, e, f)
				}
			}
		}
	}
}

func TestWeighErrors(t *testing.T) {
	for _, kind := range append(kinds(), 0, 4) {
		for _, x := range [][]int{nil, {}, make([]int, api.MaxFrame+1), make([]int, api.MaxSamples), {api.MaxValue + 1}, {0, -api.MaxValue - 1}, {0, 0, math.MinInt}, {math.MaxInt, 0}} {
			got, e := wave.Weigh(x, kind)
			expectNoList(t, "the frame", got, e, api.ErrArg)
		}
		for _, x := range [][]int{tooLong(), make([]int, api.MaxSamples+1)} {
			got, e := wave.Weigh(x, kind)
			expectNoList(t, "a long list", got, e, api.ErrLong)
		}
	}
	for _, kind := range []api.WindowKind{0, -1, 4, math.MaxInt, math.MinInt} {
		got, e := wave.Weigh([]int{1}, kind)
		expectNoList(t, "the kind", got, e, api.ErrArg)
	}
	got, e := wave.Weigh(make([]int, api.MaxFrame), api.WindowWelch)
	expectList(t, "the longest frame", got, e, make([]int, api.MaxFrame)...)
}
