// Tests of P2.2 (Resample).

package wave_test

import (
	"math/rand"
	"slices"
	"testing"

	"earshot/api"
	"earshot/wave"
)

// resampled returns the samples of a recording whose rate is changed, as the definition says it for each of them.
func resampled(x []int, up, down int) []int {
	if len(x) == 0 {
		return nil
	}
	w := atLeast(down, up)
	smoothed := func(i int) int {
		sum := 0
		for k := i; k < i+w; k++ {
			sum += x[min(k, len(x)-1)]
		}
		return nearest(sum, w)
	}
	var y []int
	for j := range atLeast(len(x)*up, down) {
		p := j * down
		i := p / up
		f := p - i*up
		y = append(y, nearest(smoothed(i)*(up-f)+smoothed(i+1)*f, up))
	}
	return y
}

func TestResampleExamples(t *testing.T) {
	for _, c := range []struct {
		rate     int
		x        []int
		up, down int
		want     int
		y        []int
	}{
		{2, []int{0, 4}, 2, 1, 4, []int{0, 2, 4, 4}},
		{4, []int{1, 2, 3, 4}, 1, 2, 2, []int{2, 4}},
		{4, []int{-1, -2, -3, -4}, 1, 2, 2, []int{-2, -4}},
		{3, []int{0, 3, 9}, 2, 3, 2, []int{2, 8}},
		{2, []int{-32768, 32767}, 3, 2, 3, []int{-32768, 10922, 32767}},
		{16, []int{7}, 1, 16, 1, []int{7}},
		{1, []int{-9}, 16, 1, 16, slices.Repeat([]int{-9}, 16)},
	} {
		got, e := wave.Resample(api.Recording{Rate: c.rate, Samples: c.x}, c.up, c.down)
		expectRecording(t, "Resample", got, e, c.want, c.y...)
	}
}

// TestResampleAllFactors compares all factors with the definition.
func TestResampleAllFactors(t *testing.T) {
	r := rand.New(rand.NewSource(3))
	for up := 1; up <= 16; up++ {
		for down := 1; down <= 16; down++ {
			for range 12 {
				x := randomSamples(r, 40)
				rate := down * (1 + r.Intn(700))
				got, e := wave.Resample(api.Recording{Rate: rate, Samples: x}, up, down)
				expectRecording(t, "Resample", got, e, rate*up/down, resampled(x, up, down)...)
			}
		}
	}
}

// TestResampleKeeps checks what stays: a sample that all samples are equal to, and everything if up is down.
func TestResampleKeeps(t *testing.T) {
	r := rand.New(rand.NewSource(4))
	for up := 1; up <= 16; up++ {
		x := randomSamples(r, 60)
		got, e := wave.Resample(api.Recording{Rate: 7, Samples: x}, up, up)
		expectRecording(t, "the same rate", got, e, 7, x...)
		for down := 1; down <= 16; down++ {
			for _, sample := range []int{0, 1, -1, 32767, -32768, 12345} {
				got, e := wave.Resample(api.Recording{Rate: 720720 / 16, Samples: slices.Repeat([]int{sample}, 33)}, down, down)
				expectRecording(t, "one sample", got, e, 720720/16, slices.Repeat([]int{sample}, 33)...)
				got, e = wave.Resample(api.Recording{Rate: down, Samples: slices.Repeat([]int{sample}, 33)}, up, down)
				expectRecording(t, "one sample", got, e, up, slices.Repeat([]int{sample}, atLeast(33*up, down))...)
			}
		}
	}
}

func TestResampleNothing(t *testing.T) {
	for up := 1; up <= 16; up++ {
		for down := 1; down <= 16; down++ {
			got, e := wave.Resample(api.Recording{Rate: 10 * down}, up, down)
			expectRecording(t, "no samples", got, e, 10*up)
		}
	}
	got, e := wave.Resample(api.Recording{Rate: 3, Samples: []int{}}, 2, 3)
	expectRecording(t, "an empty list", got, e, 2)
}

func TestResampleBounds(t *testing.T) {
	half := slices.Repeat([]int{5, -5}, api.MaxSamples/4)
	got, e := wave.Resample(api.Recording{Rate: api.MaxRate / 2, Samples: half}, 2, 1)
	expectRecording(t, "the greatest rate and number of samples", got, e, api.MaxRate, resampled(half, 2, 1)...)
	full := slices.Repeat([]int{5, -5}, api.MaxSamples/2)
	got, e = wave.Resample(api.Recording{Rate: 16, Samples: full}, 1, 16)
	expectRecording(t, "the least rate", got, e, 1, resampled(full, 1, 16)...)
	got, e = wave.Resample(api.Recording{Rate: 15, Samples: full}, 16, 15)
	expectNoRecording(t, "too many samples afterwards", got, e, api.ErrLong)
	got, e = wave.Resample(api.Recording{Rate: 1, Samples: make([]int, api.MaxSamples/2+1)}, 2, 1)
	expectNoRecording(t, "too many samples afterwards", got, e, api.ErrLong)
	for _, n := range []int{66665, 66666, 66667, 133332, 133333, 133334} { // the number of samples afterwards is rounded up
		for down := 1; down <= 2; down++ {
			got, e := wave.Resample(api.Recording{Rate: 2, Samples: make([]int, n)}, 3, down)
			if m := atLeast(3*n, down); m <= api.MaxSamples {
				expectRecording(t, "it fits", got, e, 6/down, make([]int, m)...)
			} else {
				expectNoRecording(t, "it does not fit", got, e, api.ErrLong)
			}
		}
	}
}

func TestResampleErrors(t *testing.T) {
	one := []int{1}
	for _, r := range invalidRecordings() {
		got, e := wave.Resample(r, 1, 1)
		expectNoRecording(t, "no recording", got, e, api.ErrArg)
	}
	for _, n := range edgeInts() {
		if n >= 1 && n <= 16 {
			continue
		}
		got, e := wave.Resample(api.Recording{Rate: 16, Samples: one}, n, 1)
		expectNoRecording(t, "up", got, e, api.ErrArg)
		got, e = wave.Resample(api.Recording{Rate: 16, Samples: one}, 1, n)
		expectNoRecording(t, "down", got, e, api.ErrArg)
		got, e = wave.Resample(api.Recording{Rate: 16}, n, n)
		expectNoRecording(t, "up and down without samples", got, e, api.ErrArg)
	}
	for _, c := range []struct{ rate, up, down int }{{1, 1, 2}, {3, 1, 2}, {8000, 1, 3}, {44101, 4, 6}, {96001, 2, 1}, {api.MaxRate, 16, 15}, {12001, 16, 1}} {
		got, e := wave.Resample(api.Recording{Rate: c.rate, Samples: one}, c.up, c.down)
		expectNoRecording(t, "the rate", got, e, api.ErrArg)
		got, e = wave.Resample(api.Recording{Rate: c.rate}, c.up, c.down)
		expectNoRecording(t, "the rate without samples", got, e, api.ErrArg)
	}
}

// TestResampleOrderOfErrors checks the order ErrLong, ErrArg, ErrLong of the result.
func TestResampleOrderOfErrors(t *testing.T) {
	got, e := wave.Resample(api.Recording{Samples: tooLong()}, 0, 17)
	expectNoRecording(t, "too many samples", got, e, api.ErrLong)
	got, e = wave.Resample(api.Recording{Rate: api.MaxRate, Samples: make([]int, api.MaxSamples)}, 2, 1)
	expectNoRecording(t, "the rate and the number of samples", got, e, api.ErrArg)
	got, e = wave.Resample(api.Recording{Rate: 1, Samples: make([]int, api.MaxSamples)}, 16, 3)
	expectNoRecording(t, "no integer and the number of samples", got, e, api.ErrArg)
	got, e = wave.Resample(api.Recording{Rate: 1, Samples: make([]int, api.MaxSamples)}, 17, 1)
	expectNoRecording(t, "up and the number of samples", got, e, api.ErrArg)
}
