package wave_test

import (
	"math"
	"math/rand"
	"slices"
	"testing"

	"earshot/api"
)

// nearest returns the integer that is nearest to a / b, of two the one that is farther from 0, computed without this package.
func nearest(a, b int) int {
	quotient, rest := a/b, a%b
	if 2*rest >= b {
		return quotient + 1
	}
	if 2*rest <= -b {
		return quotient - 1
	}
	return quotient
}

// atLeast returns the least integer that is not less than a / b, computed without this package.
func atLeast(a, b int) int {
	n := 0
	for n*b < a {
		n++
	}
	return n
}

// edgeInts returns numbers at the edges of the ranges of this layer.
func edgeInts() []int {
	return []int{
		0, 1, -1, 2, 3, 16, 17, 999, 1000, 1001, 1024, 1025, 4095, 4096, 4097, -4096, 32767, 32768, -32768, -32769, 65535, 65536, -65536, -65537,
		100000, 100001, 192000, 192001, 1 << 30, 1<<30 + 1, api.MaxValue, api.MaxValue + 1, -api.MaxValue, -api.MaxValue - 1, math.MaxInt, math.MinInt, math.MinInt + 1,
	}
}

// randomList returns up to most numbers whose absolute values are at most bound; the greatest ones are frequent.
func randomList(r *rand.Rand, most, bound int) []int {
	x := make([]int, r.Intn(most+1))
	for i := range x {
		switch r.Intn(6) {
		case 0:
			x[i] = bound
		case 1:
			x[i] = -bound
		case 2:
			x[i] = r.Intn(7) - 3
		default:
			x[i] = r.Intn(2*bound+1) - bound
		}
	}
	return x
}

// randomSamples returns up to most samples.
func randomSamples(r *rand.Rand, most int) []int {
	x := randomList(r, most, 32767)
	for i := range x {
		if r.Intn(10) == 0 {
			x[i] = -32768
		}
	}
	return x
}

// tooLong returns a list with more elements than a list may have, of which the last one is not even a value.
func tooLong() []int {
	x := make([]int, api.MaxSamples+1)
	x[api.MaxSamples] = math.MaxInt
	return x
}

// expectList checks that there is no error, and that got is the list want.
func expectList(t *testing.T, what string, got []int, e api.Errno, want ...int) {
	t.Helper()
	if e != api.OK {
		t.Errorf("%s: error %d", what, e)
	} else if !slices.Equal(got, want) {
		t.Errorf("%s: %v, not %v", what, short(got), short(want))
	}
}

// expectNoList checks that there is the error want, without a list.
func expectNoList(t *testing.T, what string, got []int, e, want api.Errno) {
	t.Helper()
	if e != want || len(got) > 0 {
		t.Errorf("%s: %v and error %d, not %d", what, short(got), e, want)
	}
}

// short returns the beginning of a list.
func short(x []int) []int { return x[:min(len(x), 50)] }

// expectRecording checks that there is no error, and that got is the recording with this rate and these samples.
func expectRecording(t *testing.T, what string, got api.Recording, e api.Errno, rate int, samples ...int) {
	t.Helper()
	if got.Rate != rate {
		t.Errorf("%s: rate %d, not %d", what, got.Rate, rate)
	}
	expectList(t, what, got.Samples, e, samples...)
}

// expectNoRecording checks that there is the error want, with a zero recording.
func expectNoRecording(t *testing.T, what string, got api.Recording, e, want api.Errno) {
	t.Helper()
	if got.Rate != 0 {
		t.Errorf("%s: rate %d with an error", what, got.Rate)
	}
	expectNoList(t, what, got.Samples, e, want)
}

// spoil overwrites all memory of a list, up to its capacity.
func spoil(x []int) {
	x = x[:cap(x)]
	for i := range x {
		x[i] = 12345
	}
}
