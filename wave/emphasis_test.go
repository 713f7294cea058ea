// Tests of P2.3 (Emphasize, Restore).

package wave_test

import (
	"math"
	"math/rand"
	"testing"

	"earshot/api"
	"earshot/wave"
)

// randomShare returns a numerator and a denominator of an emphasis.
func randomShare(r *rand.Rand) (num, den int) {
	den = []int{1, 2, 3, 100, 1023, 1024, 1 + r.Intn(1024)}[r.Intn(7)]
	return []int{0, den, r.Intn(den + 1)}[r.Intn(3)], den
}

func TestEmphasisExamples(t *testing.T) {
	for _, c := range []struct {
		x        []int
		num, den int
		y        []int
	}{
		{[]int{10, 10, -7}, 1, 2, []int{10, 5, -12}},
		{[]int{1, 0, -1, 0, 3, 0, -3, 0}, 1, 2, []int{1, -1, -1, 1, 3, -2, -3, 2}},
		{[]int{100, 100, 100}, 97, 100, []int{100, 3, 3}},
		{[]int{5, 6, 7}, 0, 1, []int{5, 6, 7}},
		{[]int{5, 6, 8}, 1024, 1024, []int{5, 1, 2}},
		{[]int{api.MaxValue, 0, -api.MaxValue}, 1, 1, []int{api.MaxValue, -api.MaxValue, -api.MaxValue}},
		{[]int{api.MaxValue, api.MaxValue}, 1, 3, []int{api.MaxValue, 1431655765}},
		{[]int{-api.MaxValue}, 1, 1, []int{-api.MaxValue}},
		{nil, 1, 2, nil},
	} {
		y, e := wave.Emphasize(c.x, c.num, c.den)
		expectList(t, "Emphasize", y, e, c.y...)
		z, e := wave.Restore(c.y, c.num, c.den)
		expectList(t, "Restore", z, e, c.x...)
	}
}

// TestEmphasisRandomly compares with the definition, and checks that each function undoes the other one.
func TestEmphasisRandomly(t *testing.T) {
	r := rand.New(rand.NewSource(5))
	for i := range 3000 {
		num, den := randomShare(r)
		x := randomList(r, 30, []int{9, 32768, api.MaxValue / 2, api.MaxValue}[i%4])
		var emphasized, restored []int
		okay := [2]bool{true, true}
		for i, n := range x {
			if i > 0 {
				emphasized = append(emphasized, n-nearest(num*x[i-1], den))
				restored = append(restored, n+nearest(num*restored[i-1], den))
			} else {
				emphasized, restored = []int{n}, []int{n}
			}
			okay[0] = okay[0] && max(emphasized[i], -emphasized[i]) <= api.MaxValue
			okay[1] = okay[1] && max(restored[i], -restored[i]) <= api.MaxValue
		}
		y, e := wave.Emphasize(x, num, den)
		if okay[0] {
			expectList(t, "Emphasize", y, e, emphasized...)
			back, e := wave.Restore(y, num, den)
			expectList(t, "Restore of Emphasize", back, e, x...)
		} else {
			expectNoList(t, "Emphasize", y, e, api.ErrArg)
		}
		y, e = wave.Restore(x, num, den)
		if okay[1] {
			expectList(t, "Restore", y, e, restored...)
			back, e := wave.Emphasize(y, num, den)
			expectList(t, "Emphasize of Restore", back, e, x...)
		} else {
			expectNoList(t, "Restore", y, e, api.ErrArg)
		}
	}
}

// TestEmphasisArguments checks what is not as defined, for both functions.
func TestEmphasisArguments(t *testing.T) {
	for what, f := range map[string]func(x []int, num, den int) ([]int, api.Errno){"Emphasize": wave.Emphasize, "Restore": wave.Restore} {
		for _, c := range [][2]int{{2, 1}, {0, 0}, {1, 0}, {0, -1}, {-1, 1}, {-1, -1}, {-2, -1}, {0, 1025}, {1, 1025}, {1025, 1025}, {1024, 1023}, {math.MinInt, 1}, {0, math.MinInt}, {math.MaxInt, math.MaxInt}, {math.MinInt, math.MinInt}} {
			for _, x := range [][]int{nil, {1, 2}} {
				y, e := f(x, c[0], c[1])
				expectNoList(t, what, y, e, api.ErrArg)
			}
			y, e := f(tooLong(), c[0], c[1])
			expectNoList(t, what+" of a long list", y, e, api.ErrLong)
		}
		for _, n := range []int{api.MaxValue + 1, -api.MaxValue - 1, math.MaxInt, math.MinInt} {
			for _, x := range [][]int{{n}, {0, 1, n}, {n, 0}} {
				y, e := f(x, 0, 1)
				expectNoList(t, what, y, e, api.ErrArg)
				y, e = f(x, 1, 1)
				expectNoList(t, what, y, e, api.ErrArg)
			}
		}
		for _, x := range [][]int{nil, {}} {
			y, e := f(x, 1024, 1024)
			expectList(t, what+" of nothing", y, e)
		}
		y, e := f(make([]int, api.MaxSamples), 1, 2)
		expectList(t, what+" of the longest list", y, e, make([]int, api.MaxSamples)...)
		y, e = f(make([]int, api.MaxSamples+1), 1, 2)
		expectNoList(t, what+" of a long list", y, e, api.ErrLong)
	}
}

// TestEmphasisResults checks results that are not values, also if later ones are.
func TestEmphasisResults(t *testing.T) {
	for _, x := range [][]int{{api.MaxValue, -1}, {-api.MaxValue, 1}, {api.MaxValue, -api.MaxValue}, {-api.MaxValue, 1, 0, 0}, {0, 0, api.MaxValue, -1}} {
		y, e := wave.Emphasize(x, 1, 1)
		expectNoList(t, "Emphasize", y, e, api.ErrArg)
	}
	for _, x := range [][]int{{api.MaxValue, 1}, {-api.MaxValue, -1}, {api.MaxValue, api.MaxValue}, {api.MaxValue, 1, -1}, {-api.MaxValue, -1, 1, 0}} {
		y, e := wave.Restore(x, 1, 1)
		expectNoList(t, "Restore", y, e, api.ErrArg)
	}
	growing := make([]int, api.MaxSamples)
	for i := range growing {
		growing[i] = api.MaxValue
	}
	y, e := wave.Restore(growing, 1024, 1024)
	expectNoList(t, "Restore", y, e, api.ErrArg)
	y, e = wave.Emphasize(growing, 1024, 1024)
	want := make([]int, api.MaxSamples)
	want[0] = api.MaxValue
	expectList(t, "Emphasize", y, e, want...)
}
