// Tests of P2.5 (Energy, Changes, Peak).

package wave_test

import (
	"math"
	"math/rand"
	"slices"
	"testing"

	"earshot/api"
	"earshot/wave"
)

// measures are the results of Energy, Changes and Peak.
type measures [3]int

func TestMeasures(t *testing.T) {
	for _, c := range []struct {
		x    []int
		want measures
	}{
		{nil, measures{0, 0, -1}},
		{[]int{}, measures{0, 0, -1}},
		{[]int{0}, measures{0, 0, 0}},
		{[]int{-5}, measures{25, 0, 0}},
		{[]int{3, -4}, measures{25, 1, 1}},
		{[]int{1, -1, 0, -5}, measures{27, 3, 3}},
		{[]int{1, -3, 3}, measures{19, 2, 1}},
		{[]int{1, 3, -3}, measures{19, 1, 1}},
		{[]int{0, 0, 0}, measures{0, 0, 0}},
		{[]int{-1, 0, 1}, measures{2, 1, 0}},
		{[]int{-2, -1, -2, -3}, measures{18, 0, 3}},
		{[]int{32767, -32768}, measures{32767*32767 + 32768*32768, 1, 1}},
		{[]int{65535, -65536, 65535}, measures{1<<32 + 2*65535*65535, 2, 1}},
		{slices.Repeat([]int{-65536}, api.MaxSamples), measures{api.MaxSamples << 32, 0, 0}},
		{slices.Repeat([]int{7, -8}, api.MaxSamples/2), measures{113 * api.MaxSamples / 2, api.MaxSamples - 1, 1}},
	} {
		expectMeasure(t, "Energy", wave.Energy, c.x, api.OK, c.want[0])
		expectMeasure(t, "Changes", wave.Changes, c.x, api.OK, c.want[1])
		expectMeasure(t, "Peak", wave.Peak, c.x, api.OK, c.want[2])
	}
}

// expectMeasure checks a result and its error.
func expectMeasure(t *testing.T, what string, f func(x []int) (int, api.Errno), x []int, e api.Errno, want int) {
	t.Helper()
	if n, got := f(x); got != e || n != want {
		t.Errorf("%s of %v: %d and error %d, not %d and %d", what, short(x), n, got, want, e)
	}
}

func TestMeasuresRandomly(t *testing.T) {
	r := rand.New(rand.NewSource(9))
	for range 3000 {
		x := randomList(r, 12, 1+r.Intn(8))
		sum, changes, peak := 0, 0, -1
		for i, n := range x {
			sum += n * n
			if i > 0 && min(x[i-1], n) < 0 && max(x[i-1], n) >= 0 {
				changes++
			}
			if peak < 0 || n*n > x[peak]*x[peak] {
				peak = i
			}
		}
		expectMeasure(t, "Energy", wave.Energy, x, api.OK, sum)
		expectMeasure(t, "Changes", wave.Changes, x, api.OK, changes)
		expectMeasure(t, "Peak", wave.Peak, x, api.OK, peak)
	}
}

// TestMeasuresBounds covers the numbers that each function takes: they are more than energies are measured of.
func TestMeasuresBounds(t *testing.T) {
	for _, n := range []int{65536, -65537, 1 << 20, api.MaxValue, -api.MaxValue, math.MaxInt, math.MinInt} {
		for _, x := range [][]int{{n}, {0, n}, {n, 0, 0}} {
			expectMeasure(t, "Energy", wave.Energy, x, api.ErrArg, 0)
		}
	}
	for _, n := range []int{65536, 65537, api.MaxValue} {
		expectMeasure(t, "Changes", wave.Changes, []int{n, -n, 0, n}, api.OK, 2)
		expectMeasure(t, "Peak", wave.Peak, []int{n - 1, 1 - n, -n, n}, api.OK, 2)
	}
	for _, n := range []int{api.MaxValue + 1, -api.MaxValue - 1, math.MaxInt, math.MinInt} {
		for _, x := range [][]int{{n}, {0, n}, {n, 0, 0}} {
			expectMeasure(t, "Changes", wave.Changes, x, api.ErrArg, 0)
			expectMeasure(t, "Peak", wave.Peak, x, api.ErrArg, 0)
		}
	}
	for _, x := range [][]int{tooLong(), make([]int, api.MaxSamples+1)} {
		expectMeasure(t, "Energy", wave.Energy, x, api.ErrLong, 0)
		expectMeasure(t, "Changes", wave.Changes, x, api.ErrLong, 0)
		expectMeasure(t, "Peak", wave.Peak, x, api.ErrLong, 0)
	}
}
