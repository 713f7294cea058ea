// Tests of P3.5: Distance, Nearest, Quantize, Cost.

package feature_test

import (
	"math"
	"math/rand"
	"slices"
	"testing"

	"earshot/api"
	"earshot/feature"
)

// distanceOf returns the distance of two vectors, computed with the definition.
func distanceOf(a, b []int) int {
	sum := 0
	for i := range a {
		sum += (a[i] - b[i]) * (a[i] - b[i])
	}
	return sum
}

// nearestOf returns the index of the first one of the nearest codewords, and its distance, computed with the definition.
func nearestOf(x []int, book [][]int) (int, int) {
	var all []int
	for _, word := range book {
		all = append(all, distanceOf(x, word))
	}
	least := slices.Min(all)
	return slices.Index(all, least), least
}

// costOf returns the cost of vectors, computed with the definition.
func costOf(v, book [][]int) int {
	cost := 0
	for _, x := range v {
		_, least := nearestOf(x, book)
		cost += least
	}
	return cost
}

// randomCoding returns vectors and a codebook for them; small bounds make many vectors equally near to codewords.
func randomCoding(r *rand.Rand) ([][]int, [][]int) {
	components, bound := 1+r.Intn([]int{2, 64}[r.Intn(2)]), []int{1, 3, 50, api.MaxComponent}[r.Intn(4)]
	return randomVectors(r, r.Intn(40), components, bound), randomVectors(r, 1+r.Intn(12), components, bound)
}

// filled returns a vector of n equal components.
func filled(n, component int) []int { return slices.Repeat([]int{component}, n) }

func TestDistanceExamples(t *testing.T) {
	const most = api.MaxComponent
	for _, c := range []struct {
		a, b []int
		want int
	}{
		{[]int{0}, []int{0}, 0}, {[]int{5}, []int{3}, 4}, {[]int{3}, []int{5}, 4}, {[]int{-1, 2}, []int{2, -2}, 25}, {[]int{1, 1, 1}, []int{0, 0, 0}, 3},
		{[]int{most}, []int{-most}, 1 << 42}, {filled(64, most), filled(64, -most), 1 << 48},
	} {
		got, e := feature.Distance(c.a, c.b)
		expectNumber(t, "Distance", got, e, c.want)
	}
}

func TestDistanceErrors(t *testing.T) {
	const most = api.MaxComponent
	for _, c := range [][2][]int{
		{nil, nil}, {nil, {}}, {nil, {1}}, {{1}, {1, 2}}, {{1, 2, 3}, {1, 2}}, {filled(65, 1), filled(65, 1)}, {filled(64, 1), filled(65, 1)},
		{{most + 1}, {0}}, {{-most - 1}, {0}}, {{0, most + 1}, {0, 0}}, {{most + 1}, {most + 1}}, {{math.MaxInt}, {math.MinInt}}, {{math.MinInt}, {math.MinInt}},
	} {
		got, e := feature.Distance(c[0], c[1])
		expectError(t, "Distance", got == 0, e, api.ErrArg)
		got, e = feature.Distance(c[1], c[0])
		expectError(t, "Distance", got == 0, e, api.ErrArg)
	}
}

func TestNearestExamples(t *testing.T) {
	for _, c := range []struct {
		x        []int
		book     [][]int
		index, n int
	}{
		{[]int{5}, [][]int{{0}, {4}, {6}}, 1, 1},
		{[]int{5}, [][]int{{6}, {4}}, 0, 1},
		{[]int{5}, [][]int{{0}, {5}, {5}, {6}}, 1, 0},
		{[]int{5}, [][]int{{-1000}}, 0, 1010025},
		{[]int{0, 0}, [][]int{{3, 4}, {5, 0}, {0, -5}, {4, 3}}, 0, 25},
		{[]int{0, 0}, [][]int{{3, 5}, {5, 1}, {0, -5}, {4, 3}}, 2, 25},
		{filled(64, -api.MaxComponent), [][]int{filled(64, api.MaxComponent), filled(64, api.MaxComponent)}, 0, 1 << 48},
		{[]int{255}, same(256, 7), 0, 248 * 248},
	} {
		i, n, e := feature.Nearest(c.x, c.book)
		expectNumber(t, "index", i, e, c.index)
		expectNumber(t, "distance", n, e, c.n)
	}
}

func TestQuantizeExamples(t *testing.T) {
	book := [][]int{{1}, {8}}
	for _, c := range []struct {
		v    [][]int
		want []int
		cost int
	}{
		{[][]int{{0}, {9}}, []int{0, 1}, 2}, {nil, nil, 0}, {[][]int{}, nil, 0}, {[][]int{{4}, {5}, {8}, {-7}}, []int{0, 1, 1, 0}, 9 + 9 + 64}, {same(api.MaxVectors, 7), slices.Repeat([]int{1}, api.MaxVectors), api.MaxVectors},
	} {
		got, e := feature.Quantize(c.v, book)
		expectList(t, "Quantize", got, e, c.want...)
		cost, e := feature.Cost(c.v, book)
		expectNumber(t, "Cost", cost, e, c.cost)
	}
}

// TestCodingDefinition compares with the definitions.
func TestCodingDefinition(t *testing.T) {
	r := rand.New(rand.NewSource(15))
	for range 1500 {
		v, book := randomCoding(r)
		var want []int
		for _, x := range v {
			index, least := nearestOf(x, book)
			want = append(want, index)
			i, n, e := feature.Nearest(x, book)
			expectNumber(t, "index", i, e, index)
			expectNumber(t, "distance", n, e, least)
			n, e = feature.Distance(x, book[i])
			expectNumber(t, "Distance", n, e, least)
			n, e = feature.Distance(book[i], x)
			expectNumber(t, "Distance turned round", n, e, least)
		}
		got, e := feature.Quantize(v, book)
		expectList(t, "Quantize", got, e, want...)
		cost, e := feature.Cost(v, book)
		expectNumber(t, "Cost", cost, e, costOf(v, book))
	}
}

// TestGreatestCost checks that the greatest cost is exact.
func TestGreatestCost(t *testing.T) {
	v := make([][]int, api.MaxVectors)
	for t := range v {
		v[t] = filled(64, api.MaxComponent)
	}
	book := slices.Repeat([][]int{filled(64, -api.MaxComponent)}, api.MaxCodewords)
	got, e := feature.Cost(v, book)
	expectNumber(t, "Cost", got, e, 10000<<48)
}

// coding is a function of vectors and a codebook: its name, and what it returns beside its error, a zero value or not.
type coding struct {
	name string
	call func(v, book [][]int) (bool, api.Errno)
}

// codings returns all functions of vectors and codebooks.
func codings() []coding {
	return []coding{
		{"Quantize", func(v, book [][]int) (bool, api.Errno) {
			got, e := feature.Quantize(v, book)
			return len(got) == 0, e
		}},
		{"Cost", func(v, book [][]int) (bool, api.Errno) {
			got, e := feature.Cost(v, book)
			return got == 0, e
		}},
		{"Improve", func(v, book [][]int) (bool, api.Errno) {
			got, e := feature.Improve(v, book)
			return len(got) == 0, e
		}},
		{"Train", func(v, book [][]int) (bool, api.Errno) {
			got, n, e := feature.Train(v, book, 3)
			return len(got) == 0 && n == 0, e
		}},
		{"Nearest", func(v, book [][]int) (bool, api.Errno) {
			if len(v) != 1 { // only one vector can be given
				return true, api.ErrArg
			}
			got, n, e := feature.Nearest(v[0], book)
			return got == 0 && n == 0, e
		}},
	}
}

// TestCodingErrors checks vectors and codebooks that are none, or do not fit each other.
func TestCodingErrors(t *testing.T) {
	good := [][]int{{1}}
	for _, f := range codings() {
		check := func(v, book [][]int, want api.Errno) {
			t.Helper()
			zero, e := f.call(v, book)
			expectError(t, f.name, zero, e, want)
		}
		for _, v := range noVectors() {
			check(v, good, api.ErrArg)
			check(v, [][]int{{1, 2}}, api.ErrArg)
			check(good, v, api.ErrArg)
			check(v, v, api.ErrArg)
			check(v, nil, api.ErrArg)
		}
		for _, book := range [][][]int{nil, {}, same(api.MaxCodewords+1, 1), same(api.MaxVectors, 1), {{1, 2}}, {{1, 2}, {1}}, {{1}, {1, 2}}, {{math.MaxInt}}} {
			check(good, book, api.ErrArg)
		}
		check([][]int{{1, 2}}, good, api.ErrArg)
		check(good, tooLong(), api.ErrLong)
	}
}

// TestCodingTooLong checks that too many vectors come before all other errors.
func TestCodingTooLong(t *testing.T) {
	for _, f := range codings()[:4] {
		for _, v := range [][][]int{tooLong(), same(api.MaxVectors+1, 1)} {
			for _, book := range [][][]int{{{1}}, nil, {{1, 2}}, {{}}, same(257, 1)} {
				zero, e := f.call(v, book)
				expectError(t, f.name, zero, e, api.ErrLong)
			}
		}
	}
}

// TestCodingNothing checks that an empty list of vectors fits every codebook, and nothing else.
func TestCodingNothing(t *testing.T) {
	for _, v := range [][][]int{nil, {}} {
		for _, book := range [][][]int{{{1}}, {{1, 2}, {3, 4}}, {filled(64, 1)}, same(api.MaxCodewords, 3)} {
			got, e := feature.Quantize(v, book)
			expectList(t, "Quantize", got, e)
			cost, e := feature.Cost(v, book)
			expectNumber(t, "Cost", cost, e, 0)
			better, e := feature.Improve(v, book)
			expectVectors(t, "Improve", better, e, book)
			trained, n, e := feature.Train(v, book, 9)
			expectVectors(t, "Train", trained, e, book)
			expectNumber(t, "rounds", n, e, 0)
		}
		for _, book := range append(noVectors(), nil, same(257, 1)) {
			for _, f := range codings()[:4] {
				zero, e := f.call(v, book)
				expectError(t, f.name, zero, e, api.ErrArg)
			}
		}
	}
}
