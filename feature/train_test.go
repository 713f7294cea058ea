// Tests of P3.6: Improve, Train, Seeds.

package feature_test

import (
	"math"
	"math/rand"
	"slices"
	"testing"

	"earshot/api"
	"earshot/feature"
)

// improvedOf returns the improved codebook, computed with the definition.
func improvedOf(v, book [][]int) [][]int {
	near := map[int][][]int{}
	for _, x := range v {
		i, _ := nearestOf(x, book)
		near[i] = append(near[i], x)
	}
	better := cloneVectors(book)
	for i, group := range near {
		better[i] = meanOf(group)
	}
	return better
}

// trainedOf returns the trained codebook and the number of rounds in which it changed, computed with the definition.
func trainedOf(v, book [][]int, rounds int) ([][]int, int) {
	changes := 0
	for range rounds {
		better := improvedOf(v, book)
		if equalVectors(better, book) {
			break
		}
		book = better
		changes++
	}
	return book, changes
}

// seedsOf returns the seeds, computed with the definition.
func seedsOf(v [][]int, k int) [][]int {
	seeds := v[:1:1]
	for len(seeds) < k {
		var all []int
		for _, x := range v {
			_, least := nearestOf(x, seeds)
			all = append(all, least)
		}
		most := slices.Max(all)
		if most == 0 {
			break
		}
		seeds = append(seeds, v[slices.Index(all, most)])
	}
	return seeds
}

func TestImproveExamples(t *testing.T) {
	for _, c := range []struct{ v, book, want [][]int }{
		{[][]int{{0}, {1}, {9}}, [][]int{{0}, {10}}, [][]int{{1}, {9}}},
		{[][]int{{0}, {-1}}, [][]int{{0}}, [][]int{{-1}}},
		{[][]int{{0}, {0}, {1}}, [][]int{{7}}, [][]int{{0}}},
		{[][]int{{5}}, [][]int{{100}, {-3}, {200}}, [][]int{{100}, {5}, {200}}},
		{[][]int{{2}, {4}}, [][]int{{3}, {3}}, [][]int{{3}, {3}}},
		{[][]int{{2}, {5}}, [][]int{{3}, {3}}, [][]int{{4}, {3}}},
		{[][]int{{5}}, [][]int{{6}, {4}}, [][]int{{5}, {4}}},
		{[][]int{{1, 10}, {2, 20}, {9, 90}}, [][]int{{1, 15}, {8, 80}}, [][]int{{2, 15}, {9, 90}}},
		{same(api.MaxVectors, api.MaxComponent), [][]int{{-api.MaxComponent}}, [][]int{{api.MaxComponent}}},
	} {
		got, e := feature.Improve(c.v, c.book)
		expectVectors(t, "Improve", got, e, c.want)
	}
}

func TestTrainExamples(t *testing.T) {
	v := [][]int{{0}, {1}, {9}}
	for _, c := range []struct {
		v, book [][]int
		rounds  int
		want    [][]int
		n       int
	}{
		{v, [][]int{{0}, {10}}, 5, [][]int{{1}, {9}}, 1},
		{v, [][]int{{0}, {10}}, 1, [][]int{{1}, {9}}, 1},
		{v, [][]int{{0}, {10}}, 0, [][]int{{0}, {10}}, 0},
		{v, [][]int{{1}, {9}}, 1000, [][]int{{1}, {9}}, 0},
		{[][]int{{0}, {4}, {5}, {20}}, [][]int{{0}, {2}}, 1, [][]int{{0}, {10}}, 1},
		{[][]int{{0}, {4}, {5}, {20}}, [][]int{{0}, {2}}, 2, [][]int{{3}, {20}}, 2},
		{[][]int{{0}, {4}, {5}, {20}}, [][]int{{0}, {2}}, 3, [][]int{{3}, {20}}, 2},
		{[][]int{{0}, {4}, {5}, {20}}, [][]int{{0}, {2}}, 1000, [][]int{{3}, {20}}, 2},
	} {
		got, n, e := feature.Train(c.v, c.book, c.rounds)
		expectVectors(t, "Train", got, e, c.want)
		expectNumber(t, "rounds", n, e, c.n)
	}
}

// TestTrainDefinition compares with the definitions, and checks that the cost never grows.
func TestTrainDefinition(t *testing.T) {
	r := rand.New(rand.NewSource(16))
	for range 600 {
		v, book := randomCoding(r)
		before := costOf(v, book)
		got, e := feature.Improve(v, book)
		expectVectors(t, "Improve", got, e, improvedOf(v, book))
		if costOf(v, got) > before {
			t.Errorf("Improve of %v: the cost grows", v)
		}
		for _, rounds := range []int{0, 1, 2, 3, 4, 20, 1000} {
			want, changes := trainedOf(v, book, rounds)
			got, n, e := feature.Train(v, book, rounds)
			expectVectors(t, "Train", got, e, want)
			expectNumber(t, "rounds", n, e, changes)
			cost, e := feature.Cost(v, got)
			if e != api.OK || cost > before {
				t.Errorf("Train of %v: after %d rounds the cost grows, error %d", v, rounds, e)
			}
			before = cost
		}
	}
}

// TestManyVectors checks the greatest number of vectors and the greatest codebook.
func TestManyVectors(t *testing.T) {
	r := rand.New(rand.NewSource(17))
	v := randomVectors(r, api.MaxVectors, 2, 40)
	few, many := v[:500], v
	seeds, e := feature.Seeds(few, api.MaxCodewords)
	expectVectors(t, "Seeds", seeds, e, seedsOf(few, api.MaxCodewords))
	got, e := feature.Seeds(many, 8)
	expectVectors(t, "Seeds", got, e, seedsOf(many, 8))
	if len(seeds) != api.MaxCodewords {
		t.Fatalf("%d seeds", len(seeds))
	}
	want, changes := trainedOf(many, seeds, 2)
	got, n, e := feature.Train(many, seeds, 2)
	expectVectors(t, "Train", got, e, want)
	expectNumber(t, "rounds", n, e, changes)
}

func TestTrainErrors(t *testing.T) {
	good := [][]int{{1}}
	for _, rounds := range []int{-1, 1001, 1 << 20, math.MaxInt, math.MinInt} {
		for _, v := range append(noVectors(), good, nil) {
			got, n, e := feature.Train(v, good, rounds)
			expectError(t, "rounds", len(got) == 0 && n == 0, e, api.ErrArg)
			got, n, e = feature.Train(good, v, rounds)
			expectError(t, "rounds", len(got) == 0 && n == 0, e, api.ErrArg)
		}
		got, n, e := feature.Train(tooLong(), nil, rounds)
		expectError(t, "rounds", len(got) == 0 && n == 0, e, api.ErrLong)
	}
}

func TestSeedsExamples(t *testing.T) {
	for _, c := range []struct {
		v    [][]int
		k    int
		want [][]int
	}{
		{[][]int{{5}, {0}, {9}}, 2, [][]int{{5}, {0}}},
		{[][]int{{5}, {0}, {9}, {5}}, 4, [][]int{{5}, {0}, {9}}},
		{[][]int{{5}, {9}, {1}}, 2, [][]int{{5}, {9}}},
		{[][]int{{5}, {9}, {1}}, 1, [][]int{{5}}},
		{[][]int{{5}, {5}, {5}}, 256, [][]int{{5}}},
		{[][]int{{0}, {10}, {4}, {7}}, 256, [][]int{{0}, {10}, {4}, {7}}},
		{[][]int{{0, 0}, {3, 4}, {-5, 0}, {0, 6}}, 3, [][]int{{0, 0}, {0, 6}, {-5, 0}}},
		{[][]int{filled(64, api.MaxComponent), filled(64, -api.MaxComponent)}, 2, [][]int{filled(64, api.MaxComponent), filled(64, -api.MaxComponent)}},
	} {
		got, e := feature.Seeds(c.v, c.k)
		expectVectors(t, "Seeds", got, e, c.want)
	}
}

// TestSeedsDefinition compares with the definition, and checks that seeds are different vectors of the list.
func TestSeedsDefinition(t *testing.T) {
	r := rand.New(rand.NewSource(18))
	for i := range 1000 {
		v := randomVectors(r, 1+r.Intn(25), 1+r.Intn(4), []int{1, 2, 10, api.MaxComponent}[i%4])
		for _, k := range []int{1, 2, 3, 1 + r.Intn(256), 256} {
			got, e := feature.Seeds(v, k)
			expectVectors(t, "Seeds", got, e, seedsOf(v, k))
			for i, x := range got {
				isSame := func(y []int) bool { return slices.Equal(x, y) }
				if slices.ContainsFunc(got[:i], isSame) || !slices.ContainsFunc(v, isSame) {
					t.Errorf("Seeds of %v: %v", v, got)
				}
			}
		}
	}
}

func TestSeedsErrors(t *testing.T) {
	for _, k := range append(edgeInts(), 5) {
		for _, v := range append(noVectors(), nil, [][]int{}) {
			got, e := feature.Seeds(v, k)
			expectError(t, "Seeds", len(got) == 0, e, api.ErrArg)
		}
		for _, v := range [][][]int{tooLong(), same(api.MaxVectors+1, 1)} {
			got, e := feature.Seeds(v, k)
			expectError(t, "Seeds", len(got) == 0, e, api.ErrLong)
		}
		if k < 1 || k > api.MaxCodewords {
			got, e := feature.Seeds([][]int{{1}, {2}}, k)
			expectError(t, "the number of seeds", len(got) == 0, e, api.ErrArg)
		}
	}
}
