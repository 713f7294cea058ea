// Tests of P3.3: Differences, Center.

package feature_test

import (
	"math/rand"
	"testing"

	"earshot/api"
	"earshot/feature"
)

// differencesOf returns vectors with differences, computed with the definition.
func differencesOf(v [][]int) [][]int {
	longer := cloneVectors(v)
	for t := range v {
		for i := range v[t] {
			after, before := v[t][i], v[t][i]
			if t+1 < len(v) {
				after = v[t+1][i]
			}
			if t > 0 {
				before = v[t-1][i]
			}
			longer[t] = append(longer[t], after-before)
		}
	}
	return longer
}

// meanOf returns the mean of vectors, computed with the definition.
func meanOf(v [][]int) []int {
	mean := make([]int, len(v[0]))
	for i := range mean {
		sum := 0
		for t := range v {
			sum += v[t][i]
		}
		mean[i] = nearestInt(sum, len(v))
	}
	return mean
}

// centeredOf returns centered vectors, computed with the definition.
func centeredOf(v [][]int) [][]int {
	centered, mean := cloneVectors(v), meanOf(v)
	for t := range v {
		for i := range v[t] {
			centered[t][i] -= mean[i]
		}
	}
	return centered
}

func TestDifferencesExamples(t *testing.T) {
	const most = api.MaxComponent
	for _, c := range []struct{ v, want [][]int }{
		{nil, nil}, {[][]int{}, nil},
		{[][]int{{1}, {3}, {4}}, [][]int{{1, 2}, {3, 3}, {4, 1}}},
		{[][]int{{7}}, [][]int{{7, 0}}},
		{[][]int{{7, -2}}, [][]int{{7, -2, 0, 0}}},
		{[][]int{{1, 10}, {5, 30}}, [][]int{{1, 10, 4, 20}, {5, 30, 4, 20}}},
		{[][]int{{most}, {0}, {0}, {-most}}, [][]int{{most, -most}, {0, -most}, {0, -most}, {-most, -most}}},
	} {
		got, e := feature.Differences(c.v)
		expectVectors(t, "Differences", got, e, c.want)
	}
}

func TestCenterExamples(t *testing.T) {
	const most = api.MaxComponent
	for _, c := range []struct{ v, want [][]int }{
		{nil, nil}, {[][]int{}, nil},
		{[][]int{{1}, {2}, {4}}, [][]int{{-1}, {0}, {2}}},
		{[][]int{{7, -9}}, [][]int{{0, 0}}},
		{[][]int{{1}, {2}}, [][]int{{-1}, {0}}},
		{[][]int{{-1}, {-2}}, [][]int{{1}, {0}}},
		{[][]int{{0, 5}, {0, -5}, {1, 3}}, [][]int{{0, 4}, {0, -6}, {1, 2}}},
		{[][]int{{most}, {-most}}, [][]int{{most}, {-most}}},
	} {
		got, e := feature.Center(c.v)
		expectVectors(t, "Center", got, e, c.want)
	}
}

// TestVectorsDefinition compares with the definitions, and checks the sums of centered vectors.
func TestVectorsDefinition(t *testing.T) {
	r := rand.New(rand.NewSource(10))
	for i := range 600 {
		v := randomVectors(r, 1+r.Intn(20), 1+r.Intn(32), []int{1, 30, api.MaxComponent / 2}[i%3])
		got, e := feature.Differences(v)
		expectVectors(t, "Differences", got, e, differencesOf(v))
		got, e = feature.Center(v)
		expectVectors(t, "Center", got, e, centeredOf(v))
		for i := range v[0] {
			sum := 0
			for _, x := range got {
				sum += x[i]
			}
			if 2*max(sum, -sum) > len(v) {
				t.Errorf("Center of %v: component %d has the sum %d", v, i, sum)
			}
		}
	}
}

// TestLongVectors checks the greatest numbers of components and of vectors.
func TestLongVectors(t *testing.T) {
	r := rand.New(rand.NewSource(11))
	for _, components := range []int{32, 33, 63, 64, 65} {
		v := randomVectors(r, 5, components, 40)
		got, e := feature.Differences(v)
		if components <= 32 {
			expectVectors(t, "Differences", got, e, differencesOf(v))
		} else {
			expectError(t, "Differences", len(got) == 0, e, api.ErrArg)
		}
		got, e = feature.Center(v)
		if components <= 64 {
			expectVectors(t, "Center", got, e, centeredOf(v))
		} else {
			expectError(t, "Center", len(got) == 0, e, api.ErrArg)
		}
	}
	v := same(api.MaxVectors, api.MaxComponent)
	got, e := feature.Center(v)
	expectVectors(t, "Center", got, e, same(api.MaxVectors, 0))
	got, e = feature.Differences(v)
	expectVectors(t, "Differences", got, e, differencesOf(v))
}

// TestVectorsErrors checks lists that are too long or no vectors, and results that are none.
func TestVectorsErrors(t *testing.T) {
	for name, f := range map[string]func([][]int) ([][]int, api.Errno){"Differences": feature.Differences, "Center": feature.Center} {
		for _, v := range noVectors() {
			got, e := f(v)
			expectError(t, name, len(got) == 0, e, api.ErrArg)
		}
		for _, v := range [][][]int{tooLong(), same(api.MaxVectors+1, 1)} {
			got, e := f(v)
			expectError(t, name, len(got) == 0, e, api.ErrLong)
		}
	}
	const most = api.MaxComponent
	for _, v := range [][][]int{{{most}, {-1}}, {{-most}, {1}}, {{0, most}, {5, 5}, {0, -1}}, {{1}, {-most}, {0}, {1}}, {{0}, {1}, {0}, {-most}}} {
		got, e := feature.Differences(v)
		expectError(t, "great differences", len(got) == 0, e, api.ErrArg)
	}
	for _, v := range [][][]int{{{most}, {-most}, {-most}}, {{-most}, {most}, {most}}, {{0, most}, {0, -2}, {0, -most}}, {{0, -most}, {0, 0}, {0, 2}, {0, most}, {0, 2}}} {
		got, e := feature.Center(v)
		expectError(t, "far from the mean", len(got) == 0, e, api.ErrArg)
	}
}
