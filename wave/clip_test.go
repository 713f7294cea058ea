// Tests of P2.6 (Clip).

package wave_test

import (
	"math"
	"testing"

	"earshot/api"
	"earshot/wave"
)

func TestClip(t *testing.T) {
	r := api.Recording{Rate: 5, Samples: []int{0, -32768, 32767, 9}}
	for from := -2; from <= 6; from++ {
		for to := -2; to <= 6; to++ {
			got, e := wave.Clip(r, api.Segment{From: from, To: to})
			if 0 <= from && from <= to && to <= 4 {
				expectRecording(t, "Clip", got, e, 5, r.Samples[from:to]...)
			} else {
				expectNoRecording(t, "Clip", got, e, api.ErrArg)
			}
		}
	}
	got, e := wave.Clip(api.Recording{Rate: api.MaxRate}, api.Segment{})
	expectRecording(t, "nothing of nothing", got, e, api.MaxRate)
	full := api.Recording{Rate: 1, Samples: make([]int, api.MaxSamples)}
	got, e = wave.Clip(full, api.Segment{From: 0, To: api.MaxSamples})
	expectRecording(t, "all of it", got, e, 1, full.Samples...)
}

func TestClipErrors(t *testing.T) {
	for _, r := range invalidRecordings() {
		got, e := wave.Clip(r, api.Segment{})
		expectNoRecording(t, "no recording", got, e, api.ErrArg)
	}
	for _, s := range []api.Segment{{From: math.MinInt, To: 1}, {From: 0, To: math.MaxInt}, {From: math.MaxInt, To: math.MaxInt}, {From: math.MinInt, To: math.MinInt}, {From: math.MaxInt, To: math.MinInt}} {
		got, e := wave.Clip(api.Recording{Rate: 1, Samples: []int{1, 2}}, s)
		expectNoRecording(t, "the segment", got, e, api.ErrArg)
		got, e = wave.Clip(api.Recording{Samples: tooLong()}, s)
		expectNoRecording(t, "too many samples", got, e, api.ErrLong)
	}
	got, e := wave.Clip(api.Recording{Rate: 1, Samples: make([]int, api.MaxSamples+1)}, api.Segment{From: 0, To: 1})
	expectNoRecording(t, "too many samples", got, e, api.ErrLong)
}
