// Tests of P2.4 (Frames).

package wave_test

import (
	"math"
	"math/rand"
	"slices"
	"testing"

	"earshot/api"
	"earshot/wave"
)

// expectFrames checks that there is no error, and that got are the frames want.
func expectFrames(t *testing.T, what string, got [][]int, e api.Errno, want ...[]int) {
	t.Helper()
	if e != api.OK || !slices.EqualFunc(got, want, slices.Equal[[]int]) {
		t.Errorf("%s: %d frames and error %d, not %d frames", what, len(got), e, len(want))
	}
}

// expectNoFrames checks that there is the error want, without frames.
func expectNoFrames(t *testing.T, what string, got [][]int, e, want api.Errno) {
	t.Helper()
	if e != want || len(got) > 0 {
		t.Errorf("%s: %d frames and error %d, not %d", what, len(got), e, want)
	}
}

// framesOf returns the frames of a list, as the definition says it for each element.
func framesOf(x []int, size, step int, pad bool) [][]int {
	var list [][]int
	for from := 0; from < len(x) && (pad || from+size <= len(x)); from += step {
		frame := make([]int, size)
		for i := range frame {
			if from+i < len(x) {
				frame[i] = x[from+i]
			}
		}
		list = append(list, frame)
	}
	return list
}

func TestFramesExamples(t *testing.T) {
	five := []int{1, 2, 3, 4, 5}
	for _, c := range []struct {
		x          []int
		size, step int
		pad        bool
		want       [][]int
	}{
		{five, 2, 2, false, [][]int{{1, 2}, {3, 4}}},
		{five, 2, 2, true, [][]int{{1, 2}, {3, 4}, {5, 0}}},
		{five, 5, 1, false, [][]int{five}},
		{five, 5, 3, true, [][]int{five, {4, 5, 0, 0, 0}}},
		{five, 6, 1, false, nil},
		{five, 6, 5, true, [][]int{{1, 2, 3, 4, 5, 0}}},
		{five, 1, 2, false, [][]int{{1}, {3}, {5}}},
		{five, 1, 4, true, [][]int{{1}, {5}}},
		{five, 3, 1, false, [][]int{{1, 2, 3}, {2, 3, 4}, {3, 4, 5}}},
		{five, 3, 2, false, [][]int{{1, 2, 3}, {3, 4, 5}}},
		{five, 2, api.MaxFrame, true, [][]int{{1, 2}}},
		{nil, 1, 1, false, nil},
		{nil, 1, 1, true, nil},
		{[]int{}, api.MaxFrame, api.MaxFrame, true, nil},
		{[]int{api.MaxValue, -api.MaxValue}, 1, 1, false, [][]int{{api.MaxValue}, {-api.MaxValue}}},
	} {
		got, e := wave.Frames(c.x, c.size, c.step, c.pad)
		expectFrames(t, "Frames", got, e, c.want...)
	}
}

func TestFramesRandomly(t *testing.T) {
	r := rand.New(rand.NewSource(6))
	for range 3000 {
		x := randomList(r, 60, api.MaxValue)
		size, step, pad := 1+r.Intn(20), 1+r.Intn(20), r.Intn(2) == 0
		got, e := wave.Frames(x, size, step, pad)
		expectFrames(t, "Frames", got, e, framesOf(x, size, step, pad)...)
	}
	x := randomList(r, api.MaxSamples, api.MaxValue)
	for _, size := range []int{1, 1000, api.MaxFrame - 1, api.MaxFrame} {
		got, e := wave.Frames(x, size, api.MaxFrame, true)
		expectFrames(t, "great steps", got, e, framesOf(x, size, api.MaxFrame, true)...)
	}
}

// TestFramesSideBySide checks that padded frames whose size is the step are the list, followed by zeros.
func TestFramesSideBySide(t *testing.T) {
	r := rand.New(rand.NewSource(7))
	for size := 1; size <= 50; size++ {
		x := randomList(r, 200, 32767)
		got, e := wave.Frames(x, size, size, true)
		zeros := len(got)*size - len(x)
		if zeros < 0 || zeros >= size {
			t.Fatalf("%d frames of %d elements for %d", len(got), size, len(x))
		}
		expectList(t, "the frames", slices.Concat(got...), e, slices.Concat(x, make([]int, zeros))...)
	}
}

func TestFramesErrors(t *testing.T) {
	for _, n := range edgeInts() {
		if n >= 1 && n <= api.MaxFrame {
			continue
		}
		for _, x := range [][]int{nil, {1, 2}} {
			for _, pad := range []bool{false, true} {
				got, e := wave.Frames(x, n, 1, pad)
				expectNoFrames(t, "size", got, e, api.ErrArg)
				got, e = wave.Frames(x, 1, n, pad)
				expectNoFrames(t, "step", got, e, api.ErrArg)
				got, e = wave.Frames(tooLong(), n, n, pad)
				expectNoFrames(t, "a long list", got, e, api.ErrLong)
			}
		}
	}
	for _, n := range []int{api.MaxValue + 1, -api.MaxValue - 1, math.MaxInt, math.MinInt} {
		for _, x := range [][]int{{n}, {0, n}, {0, 1, 2, n}} {
			got, e := wave.Frames(x, 2, 3, false)
			expectNoFrames(t, "no value", got, e, api.ErrArg)
		}
	}
}

// TestFramesTogether covers the bound of all elements together.
func TestFramesTogether(t *testing.T) {
	full := make([]int, api.MaxSamples)
	for _, c := range []struct {
		n, size, step int
		pad           bool
		want          int
	}{
		{200000, 20, 1, true, 200000}, {200000, 21, 1, true, -1}, {97561, 41, 1, true, -1}, {97560, 41, 1, true, 97560}, {190477, 21, 1, true, -1}, {190476, 21, 1, true, 190476},
		{199901, 2000, 99, false, 2000}, {200000, 2000, 99, false, -1}, {200000, 4096, 4096, true, 49}, {200000, 4096, 1, false, -1}, {4096, 4096, 1, true, -1},
		{200000, 1, 1, false, 200000}, {4095, 4096, 1, false, 0}, {4096, 4096, 1, false, 1},
	} {
		got, e := wave.Frames(full[:c.n], c.size, c.step, c.pad)
		if c.want < 0 {
			expectNoFrames(t, "too many elements", got, e, api.ErrLong)
		} else if e != api.OK || len(got) != c.want {
			t.Errorf("%d, %d, %d: %d frames and error %d", c.n, c.size, c.step, len(got), e)
		}
	}
	wrong := slices.Clone(full)
	wrong[len(wrong)-1] = math.MaxInt
	got, e := wave.Frames(wrong, 4096, 1, true)
	expectNoFrames(t, "no value, and too many elements", got, e, api.ErrArg)
}
