// Tests of P3.2: Bands, Log, Cepstrum.

package feature_test

import (
	"math"
	"math/big"
	"math/rand"
	"slices"
	"testing"

	"earshot/api"
	"earshot/feature"
)

// bandsOf returns the bands of a spectrum, computed with the definition.
func bandsOf(s, edges []int) []int {
	var bands []int
	for b := 0; b+1 < len(edges); b++ {
		sum := 0
		for i, n := range s {
			if edges[b] <= i && i < edges[b+1] {
				sum += n * n
			}
		}
		bands = append(bands, sum)
	}
	return bands
}

// randomEdges returns edges of a spectrum of n numbers, at most so many as most says.
func randomEdges(r *rand.Rand, n, most int) []int {
	edges := r.Perm(n + 1)[:2+r.Intn(min(n, most-1))]
	slices.Sort(edges)
	return edges
}

// power returns e to the power 16.
func power(e int) *big.Int {
	return new(big.Int).Exp(big.NewInt(int64(e)), big.NewInt(16), nil)
}

func TestBandsExamples(t *testing.T) {
	for _, c := range []struct{ s, edges, want []int }{
		{[]int{1, 2, 3, 4}, []int{0, 2, 4}, []int{5, 25}},
		{[]int{1, 2, 3, 4}, []int{1, 2, 3}, []int{4, 9}},
		{[]int{1, -2, 3, -4}, []int{0, 4}, []int{30}},
		{[]int{1, -2, 3}, []int{2, 3}, []int{9}},
		{[]int{-1 << 24}, []int{0, 1}, []int{1 << 48}},
		{[]int{0, 0}, []int{0, 1, 2}, []int{0, 0}},
		{extremes(64, 1<<24)[1], []int{0, 64}, []int{1 << 54}},
	} {
		got, e := feature.Bands(c.s, c.edges)
		expectList(t, "Bands", got, e, c.want...)
	}
}

func TestBandsDefinition(t *testing.T) {
	r := rand.New(rand.NewSource(6))
	for i := range 2000 {
		s := randomList(r, 1+i%64, []int{3, 1000, 1 << 24}[i%3])
		edges := randomEdges(r, len(s), 65)
		got, e := feature.Bands(s, edges)
		expectList(t, "Bands", got, e, bandsOf(s, edges)...)
	}
	s, edges := randomList(r, 64, 9), make([]int, 65)
	for i := range edges {
		edges[i] = i
	}
	got, e := feature.Bands(s, edges)
	expectList(t, "bands of one number each", got, e, bandsOf(s, edges)...)
}

func TestBandsErrors(t *testing.T) {
	s := []int{1, 2, 3, 4}
	for _, edges := range [][]int{nil, {}, {0}, {4}, {1, 1}, {2, 1}, {0, 2, 2}, {0, 2, 1}, {0, 5}, {3, 5}, {-1, 2}, {-1, 0}, {5, 6}, {0, 1, 2, 3, 4, 5}, {math.MinInt, 0}, {0, math.MaxInt}} {
		got, e := feature.Bands(s, edges)
		expectError(t, "edges", len(got) == 0, e, api.ErrArg)
		for _, none := range [][]int{nil, {}} {
			got, e = feature.Bands(none, edges)
			expectError(t, "no spectrum", len(got) == 0, e, api.ErrArg)
		}
	}
	for _, n := range edgeInts() {
		if n < -1<<24 || n > 1<<24 {
			for _, s := range [][]int{{n, 0, 0}, {0, n, 0}, {0, 0, n}} {
				got, e := feature.Bands(s, []int{0, 1})
				expectError(t, "spectrum", len(got) == 0, e, api.ErrArg)
			}
		}
	}
	got, e := feature.Bands(make([]int, 65), []int{0, 1})
	expectError(t, "a long spectrum", len(got) == 0, e, api.ErrArg)
}

func TestLogExamples(t *testing.T) {
	for _, c := range [][2]int{{0, -16}, {1, 0}, {2, 16}, {3, 25}, {4, 32}, {100, 106}, {1000, 159}, {40000, 244}, {math.MaxInt, 1007}} {
		got, e := feature.Log(c[0])
		expectNumber(t, "Log", got, e, c[1])
	}
	for i := range 63 {
		got, e := feature.Log(1 << i)
		expectNumber(t, "Log of a power of 2", got, e, 16*i)
		if i > 4 {
			got, e = feature.Log(1<<i - 1)
			expectNumber(t, "Log of one less", got, e, 16*i-1)
		}
	}
}

// TestLogDefinition compares with powers of any size, for small numbers and for random ones.
func TestLogDefinition(t *testing.T) {
	r := rand.New(rand.NewSource(7))
	for i := range 5000 {
		for _, e := range []int{1 + i, 1 + r.Intn(math.MaxInt)>>r.Intn(63)} {
			l, err := feature.Log(e)
			if err != api.OK || l < 0 {
				t.Fatalf("Log of %d: %d, error %d", e, l, err)
			}
			least := new(big.Int).Lsh(big.NewInt(1), uint(l))
			if power(e).Cmp(least) < 0 || power(e).Cmp(least.Lsh(least, 1)) >= 0 {
				t.Errorf("Log of %d: %d", e, l)
			}
		}
	}
}

// TestLogSteps checks, for each logarithm, the least number that has it or a greater one, and the number before it.
func TestLogSteps(t *testing.T) {
	for l := 1; l < 1008; l++ {
		least := new(big.Int).Lsh(big.NewInt(1), uint(l))
		low, high := 1, math.MaxInt // the power of low is less, that of high is not
		for high-low > 1 {
			if middle := low + (high-low)/2; power(middle).Cmp(least) < 0 {
				low = middle
			} else {
				high = middle
			}
		}
		before, e := feature.Log(low)
		after, f := feature.Log(high)
		if e != api.OK || f != api.OK || before >= l || after < l {
			t.Errorf("logarithms of %d and %d: %d and %d, at %d; errors %d and %d", low, high, before, after, l, e, f)
		}
	}
}

// TestLogRules checks that logarithms do not decrease, grow by 16 if a number is doubled, and are added for products.
func TestLogRules(t *testing.T) {
	log := func(n int) int {
		l, e := feature.Log(n)
		if e != api.OK {
			t.Fatalf("Log of %d: error %d", n, e)
		}
		return l
	}
	r := rand.New(rand.NewSource(8))
	for i := range 3000 {
		if log(i) > log(i+1) {
			t.Errorf("logarithms of %d and the next number: %d, %d", i, log(i), log(i+1))
		}
		a, b := 1+r.Intn(1<<31)>>r.Intn(31), 1+r.Intn(1<<31)>>r.Intn(31)
		if log(2*a) != log(a)+16 {
			t.Errorf("logarithms of %d and twice as much: %d, %d", a, log(a), log(2*a))
		}
		if more := log(a*b) - log(a) - log(b); more != 0 && more != 1 {
			t.Errorf("logarithms of %d, %d and their product: %d, %d, %d", a, b, log(a), log(b), log(a*b))
		}
	}
}

func TestLogErrors(t *testing.T) {
	for _, n := range []int{-1, -2, -1 << 40, math.MinInt} {
		got, e := feature.Log(n)
		expectError(t, "Log", got == 0, e, api.ErrArg)
	}
}

// lengthOf returns the least length of a transform that is at least m.
func lengthOf(m int) int {
	for _, n := range lengths() {
		if n >= m {
			return n
		}
	}
	return 0
}

func TestCepstrumExamples(t *testing.T) {
	for _, c := range []struct{ x, want []int }{
		{[]int{16, 16, 16}, []int{48}}, {[]int{16, 16, 16}, []int{48, 15}}, {[]int{16, 16, 16}, []int{48, 15, -11, 6}},
		{[]int{-5}, []int{-5}}, {[]int{100, 100}, []int{200, 0}},
	} {
		got, e := feature.Cepstrum(c.x, len(c.want))
		expectList(t, "Cepstrum", got, e, c.want...)
	}
}

// TestCepstrumDefinition compares with the definition, for all lengths and counts.
func TestCepstrumDefinition(t *testing.T) {
	r := rand.New(rand.NewSource(9))
	for m := 1; m <= 64; m++ {
		x := randomList(r, m, []int{5, 800, 65536}[m%3])
		longer := append(slices.Clone(x), make([]int, lengthOf(m)-m)...)
		want := spectrumOf(longer)
		for count := 1; count <= lengthOf(m); count++ {
			got, e := feature.Cepstrum(x, count)
			expectList(t, "Cepstrum", got, e, want[:count]...)
		}
		for _, count := range append(edgeInts(), lengthOf(m)+1) {
			if count < 1 || count > lengthOf(m) {
				got, e := feature.Cepstrum(x, count)
				expectError(t, "the count", len(got) == 0, e, api.ErrArg)
			}
		}
	}
}

func TestCepstrumErrors(t *testing.T) {
	for _, x := range [][]int{nil, {}, make([]int, 65), make([]int, 128), {65537}, {-65537}, {1, 2, 65537}, {-65537, 1, 2}, {1, math.MinInt}, {math.MaxInt}} {
		for _, count := range []int{0, 1, 2, 64, 65, -1} {
			got, e := feature.Cepstrum(x, count)
			expectError(t, "Cepstrum", len(got) == 0, e, api.ErrArg)
		}
	}
}
