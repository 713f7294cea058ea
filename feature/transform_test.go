// Tests of P3.1: Cosine, Transform, Inverse, Spectrum, Slack.

package feature_test

import (
	"math"
	"math/big"
	"math/rand"
	"testing"

	"earshot/api"
	"earshot/feature"
)

// cosineOf returns C(j), computed from the table as the document says; the remainder is found by subtraction.
func cosineOf(j int) int {
	for j >= 256 {
		j -= 256
	}
	switch {
	case j > 192:
		return api.Cosines[256-j]
	case j > 128:
		return -api.Cosines[j-128]
	case j > 64:
		return -api.Cosines[128-j]
	}
	return api.Cosines[j]
}

// angle returns (2 i + 1) k 64 / n.
func angle(i, k, n int) int { return (2*i + 1) * k * 64 / n }

// transformOf returns the transform of a list, computed with the definition.
func transformOf(x []int) []int {
	t := make([]int, len(x))
	for k := range t {
		for i := range x {
			t[k] += x[i] * cosineOf(angle(i, k, len(x)))
		}
	}
	return t
}

// inverseOf returns the inverse transform of a list, computed with integers of any size.
func inverseOf(t []int) []int {
	n := len(t)
	x := make([]int, n)
	for i := range x {
		sum := new(big.Int)
		for k := range t {
			weight := 2 * cosineOf(angle(i, k, n))
			if k == 0 {
				weight = 16384
			}
			sum.Add(sum, new(big.Int).Mul(big.NewInt(int64(t[k])), big.NewInt(int64(weight))))
		}
		half := new(big.Int).Mul(big.NewInt(int64(sum.Sign())), big.NewInt(int64(n<<27)))
		x[i] = int(sum.Add(sum, half).Quo(sum, big.NewInt(int64(n<<28))).Int64())
	}
	return x
}

// spectrumOf returns the spectrum of a list, computed with the definition.
func spectrumOf(x []int) []int {
	s := transformOf(x)
	for k := range s {
		s[k] = nearestInt(s[k], 16384)
	}
	return s
}

// extremes returns lists of n numbers for which sums are greatest.
func extremes(n, bound int) [][]int {
	list := make([][]int, 2+n)
	for k := range list {
		list[k] = make([]int, n)
		for i := range n {
			switch {
			case k == n:
				list[k][i] = -bound
			case k == n+1:
				list[k][i] = bound * (1 - 2*(i%2))
			case cosineOf(angle(i, k, n)) < 0:
				list[k][i] = -bound
			default:
				list[k][i] = bound
			}
		}
	}
	return list
}

// inputs returns lists of n numbers that have a transform, also those with the greatest elements.
func inputs(r *rand.Rand, n int) [][]int {
	lists := extremes(n, 65536)
	for i := range 60 {
		lists = append(lists, randomList(r, n, []int{2, 100, 65536}[i%3]))
	}
	return lists
}

func TestCosineExamples(t *testing.T) {
	for _, c := range [][2]int{{0, 16384}, {1, 16379}, {32, 11585}, {63, 402}, {64, 0}, {65, -402}, {96, -11585}, {127, -16379}, {128, -16384}, {129, -16379}, {191, -402}, {192, 0}, {193, 402}, {200, 3196}, {255, 16379}, {256, 16384}, {257, 16379}, {math.MaxInt, 16379}, {math.MaxInt - 63, 0}} {
		got, e := feature.Cosine(c[0])
		expectNumber(t, "Cosine", got, e, c[1])
	}
}

// TestCosineDefinition compares with the table, and with real cosines.
func TestCosineDefinition(t *testing.T) {
	for j := range 1100 {
		got, e := feature.Cosine(j)
		expectNumber(t, "Cosine", got, e, cosineOf(j))
		if real := 16384 * math.Cos(math.Pi*float64(j)/128); math.Abs(float64(got)-real) > 0.5+1e-9 {
			t.Errorf("Cosine %d: %d, not %f", j, got, real)
		}
	}
}

func TestCosineErrors(t *testing.T) {
	for _, j := range []int{-1, -64, -256, math.MinInt} {
		got, e := feature.Cosine(j)
		expectError(t, "Cosine", got == 0, e, api.ErrArg)
	}
}

func TestTransformExamples(t *testing.T) {
	for _, c := range []struct{ x, want []int }{
		{[]int{0}, []int{0}}, {[]int{5}, []int{81920}}, {[]int{-65536}, []int{-1073741824}},
		{[]int{1, 1}, []int{32768, 0}}, {[]int{1, -1}, []int{0, 23170}}, {[]int{3, 0}, []int{49152, 34755}},
		{[]int{1, 0, 0, 0}, []int{16384, 15137, 11585, 6270}}, {[]int{0, 1, 0, 0}, []int{16384, 6270, -11585, -15137}},
	} {
		got, e := feature.Transform(c.x)
		expectList(t, "Transform", got, e, c.want...)
	}
}

// TestTransformDefinition compares with the definition, and with real cosines.
func TestTransformDefinition(t *testing.T) {
	r := rand.New(rand.NewSource(1))
	for _, n := range lengths() {
		for _, x := range inputs(r, n) {
			got, e := feature.Transform(x)
			expectList(t, "Transform", got, e, transformOf(x)...)
			slack, e := feature.Slack(x)
			if e != api.OK {
				t.Fatalf("Slack of %v: error %d", x, e)
			}
			for k := range got {
				real := 0.0
				for i := range x {
					real += float64(x[i]) * 16384 * math.Cos(math.Pi*float64((2*i+1)*k)/float64(2*n))
				}
				if math.Abs(float64(got[k])-real) > float64(slack)+0.001 {
					t.Errorf("element %d of the transform of %v: %d, not %f", k, x, got[k], real)
				}
			}
		}
	}
}

// TestTransformOfSums checks that the transform of a sum is the sum of the transforms.
func TestTransformOfSums(t *testing.T) {
	r := rand.New(rand.NewSource(2))
	for _, n := range lengths() {
		for range 40 {
			a, b, sum := randomList(r, n, 32768), randomList(r, n, 32768), make([]int, n)
			for i := range sum {
				sum[i] = a[i] + b[i]
			}
			want, e := feature.Transform(a)
			part, f := feature.Transform(b)
			if e != api.OK || f != api.OK || len(want) != n || len(part) != n {
				t.Fatalf("errors %d and %d", e, f)
			}
			for k := range want {
				want[k] += part[k]
			}
			got, e := feature.Transform(sum)
			expectList(t, "Transform of a sum", got, e, want...)
		}
	}
}

func TestInverseExamples(t *testing.T) {
	for _, c := range []struct{ x, want []int }{
		{[]int{16384}, []int{1}}, {[]int{8191}, []int{0}}, {[]int{8192}, []int{1}}, {[]int{-8191}, []int{0}}, {[]int{-8192}, []int{-1}}, {[]int{1 << 40}, []int{1 << 26}}, {[]int{-1 << 40}, []int{-1 << 26}},
		{[]int{32768, 0}, []int{1, 1}}, {[]int{0, 23170}, []int{1, -1}}, {[]int{0, 0, 0, 0}, []int{0, 0, 0, 0}},
	} {
		got, e := feature.Inverse(c.x)
		expectList(t, "Inverse", got, e, c.want...)
	}
}

// TestInverseDefinition compares with the definition, also where sums are greatest.
func TestInverseDefinition(t *testing.T) {
	r := rand.New(rand.NewSource(3))
	for _, n := range lengths() {
		lists := extremes(n, 1<<40)
		for i := range 60 {
			lists = append(lists, randomList(r, n, []int{3, 1 << 14, 1 << 36, 1 << 40}[i%4]))
		}
		// The greatest element 0 is the one with the greatest sum.
		first := make([]int, n)
		for k := range first {
			first[k] = 1 << 40
			if cosineOf(angle(0, k, n)) < 0 {
				first[k] = -first[k]
			}
		}
		for _, x := range append(lists, first) {
			got, e := feature.Inverse(x)
			expectList(t, "Inverse", got, e, inverseOf(x)...)
		}
	}
}

// TestInverseOfTransform checks by how much the inverse transform of the transform differs from the list.
func TestInverseOfTransform(t *testing.T) {
	r := rand.New(rand.NewSource(4))
	for _, n := range lengths() {
		for i := range 60 {
			bound := []int{1, 90, 4000, 65536}[i%4]
			x := randomList(r, n, max(bound, 3))
			for _, m := range x {
				bound = max(bound, m, -m)
			}
			transform, e := feature.Transform(x)
			got, f := feature.Inverse(transform)
			if e != api.OK || f != api.OK || len(got) != n {
				t.Fatalf("Inverse of Transform of %v: errors %d and %d", x, e, f)
			}
			for i := range x {
				if 16384*max(got[i]-x[i], x[i]-got[i]) > 2*n*bound+16384 {
					t.Errorf("%v becomes %v", x, got)
				}
			}
		}
	}
}

func TestSpectrumExamples(t *testing.T) {
	for _, c := range []struct{ x, want []int }{
		{[]int{100, 100}, []int{200, 0}}, {[]int{7, -7}, []int{0, 10}}, {[]int{-7, 7}, []int{0, -10}}, {[]int{1, -1}, []int{0, 1}}, {[]int{-65536}, []int{-65536}},
		{[]int{16, 16, 16, 0}, []int{48, 15, -11, 6}},
	} {
		got, e := feature.Spectrum(c.x)
		expectList(t, "Spectrum", got, e, c.want...)
	}
}

func TestSpectrumDefinition(t *testing.T) {
	r := rand.New(rand.NewSource(5))
	for _, n := range lengths() {
		for _, x := range inputs(r, n) {
			got, e := feature.Spectrum(x)
			expectList(t, "Spectrum", got, e, spectrumOf(x)...)
		}
	}
}

func TestSlackExamples(t *testing.T) {
	for _, c := range []struct {
		x    []int
		want int
	}{
		{nil, 0}, {[]int{}, 0}, {[]int{0}, 0}, {[]int{1}, 1}, {[]int{-1}, 1}, {[]int{2}, 1}, {[]int{1, -2}, 2}, {[]int{1, -2, 1}, 2}, {[]int{65536, -65536, 65535}, 98304},
		{extremes(64, 65536)[0], 1 << 21}, {make([]int, 63), 0},
	} {
		got, e := feature.Slack(c.x)
		expectNumber(t, "Slack", got, e, c.want)
	}
}

// TestTransformErrors checks lengths, and elements that are out of range.
func TestTransformErrors(t *testing.T) {
	check := func(x []int, bad, badInverse, badSlack bool) {
		t.Helper()
		want := map[bool]api.Errno{false: api.OK, true: api.ErrArg}
		got, e := feature.Transform(x)
		expectError(t, "Transform", len(got) == 0 || !bad, e, want[bad])
		got, e = feature.Spectrum(x)
		expectError(t, "Spectrum", len(got) == 0 || !bad, e, want[bad])
		got, e = feature.Inverse(x)
		expectError(t, "Inverse", len(got) == 0 || !badInverse, e, want[badInverse])
		slack, e := feature.Slack(x)
		expectError(t, "Slack", slack == 0 || !badSlack, e, want[badSlack])
	}
	possible := map[int]bool{1: true, 2: true, 4: true, 8: true, 16: true, 32: true, 64: true}
	for n := range 300 {
		check(make([]int, n), !possible[n], !possible[n], n > 64)
	}
	for _, n := range edgeInts() {
		far, farther := n < -65536 || n > 65536, n < -1<<40 || n > 1<<40
		check([]int{n}, far, farther, far)
		check([]int{1, n}, far, farther, far)
		check([]int{n, 1, 1, -1}, far, farther, far)
		check([]int{n, 1, 1}, true, true, far)
	}
}
