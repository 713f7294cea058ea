// Tests of P10.1: Gap and Cluster.

package talk_test

import (
	"math"
	"math/big"
	"math/rand"
	"slices"
	"testing"

	"earshot/api"
	"earshot/frac"
	"earshot/talk"
)

// randomGroup returns so many vectors with components that are small, so that gaps are often equal.
func randomGroup(r *rand.Rand, size, components, bound int) [][]int {
	group := make([][]int, size)
	for i := range group {
		group[i] = make([]int, components)
		for j := range group[i] {
			group[i][j] = r.Intn(2*bound+1) - bound
		}
	}
	return group
}

// expectGap checks the gap of two groups.
func expectGap(t *testing.T, a, b [][]int) {
	t.Helper()
	want := gapOf(a, b)
	for _, pair := range [][2][][]int{{a, b}, {b, a}} {
		got, e := talk.Gap(pair[0], pair[1])
		if e != api.OK || !isCanonical(got) || valueOf(got).Cmp(want) != 0 {
			t.Fatalf("Gap: %s and error %d, not %s", frac.Text(got), e, want.RatString())
		}
	}
}

// TestGap checks gaps against the definition, and against what the sum of the squared distances to the centers grows by.
func TestGap(t *testing.T) {
	if g, e := talk.Gap([][]int{{0}, {0}}, [][]int{{3}}); e != api.OK || frac.Text(g) != "6" {
		t.Errorf("the example: %s and error %d", frac.Text(g), e)
	}
	r := rand.New(rand.NewSource(1))
	for range 500 {
		components := 1 + r.Intn(4)
		a, b := randomGroup(r, 1+r.Intn(5), components, 9), randomGroup(r, 1+r.Intn(5), components, 9)
		expectGap(t, a, b)
		growth := spread(append(slices.Clone(a), b...))
		growth.Sub(growth, spread(a)).Sub(growth, spread(b))
		if got, _ := talk.Gap(a, b); valueOf(got).Cmp(growth) != 0 {
			t.Fatalf("the gap of %v and %v is %s, not %s", a, b, frac.Text(got), growth.RatString())
		}
	}
	expectGap(t, [][]int{{5, -5}}, [][]int{{5, -5}, {5, -5}})
}

// TestGreatestGap checks gaps of as many and as great numbers as there may be.
func TestGreatestGap(t *testing.T) {
	for _, size := range []int{1, 5000, 9999} {
		a, b := make([][]int, size), make([][]int, api.MaxVectors-size)
		for i := range a {
			a[i] = slices.Repeat([]int{api.MaxComponent}, api.MaxVector)
		}
		for i := range b {
			b[i] = slices.Repeat([]int{-api.MaxComponent}, api.MaxVector)
		}
		expectGap(t, a, b)
		b[0] = slices.Repeat([]int{api.MaxComponent - 1}, api.MaxVector)
		a[0] = slices.Repeat([]int{0, 1}, api.MaxVector/2)
		expectGap(t, a, b)
	}
}

// expectClusters checks the speakers of groups, and what P10.1 says about them.
func expectClusters(t *testing.T, groups [][][]int, most int, limit api.Frac) {
	t.Helper()
	got, e := talk.Cluster(groups, most, limit)
	want := speakersOf(groups, most, valueOf(limit))
	if e != api.OK || !slices.Equal(got, want) {
		t.Fatalf("Cluster of %s, most %d, limit %s: %v and error %d, not %v", brief(groups), most, frac.Text(limit), got, e, want)
	}
	clusters := map[int][][]int{}
	for group, speaker := range got {
		clusters[speaker] = append(clusters[speaker], groups[group]...)
	}
	if len(clusters) > most {
		t.Fatalf("%d speakers, most %d", len(clusters), most)
	}
	for i := range len(clusters) {
		for j := range i {
			if gapOf(clusters[i], clusters[j]).Cmp(valueOf(limit)) <= 0 {
				t.Fatalf("the gap of the speakers %d and %d is at most %s", j, i, frac.Text(limit))
			}
		}
	}
}

// TestCluster checks speakers against the definition, for groups of which many are equally far from each other.
func TestCluster(t *testing.T) {
	groups := [][][]int{{{0}}, {{9}}, {{1}}}
	expectClusters(t, groups, 2, api.Frac{})
	expectClusters(t, groups, 3, f(t, "1/2"))
	expectClusters(t, groups, 3, f(t, "1/3"))
	expectClusters(t, groups, 1, api.Frac{})
	expectClusters(t, groups, math.MaxInt, f(t, "1000000"))
	expectClusters(t, [][][]int{{{1}}, {{1}}, {{1}}}, 3, api.Frac{}) // a limit of 0 is reached
	expectClusters(t, [][][]int{{{7}, {8}}}, 1, f(t, "5"))
	r := rand.New(rand.NewSource(2))
	seen := map[int]bool{}
	for range 2000 {
		var groups [][][]int
		components, bound := 1+r.Intn(2), 1+r.Intn(6)
		for range r.Intn(9) {
			groups = append(groups, randomGroup(r, 1+r.Intn(3), components, bound))
		}
		expectClusters(t, groups, 1+r.Intn(9), fraction(r, max(r.Intn(20)-5, 0), 1+r.Intn(3)))
		speakers, _ := talk.Cluster(groups, 9, f(t, "3"))
		seen[len(slices.Compact(slices.Sorted(slices.Values(speakers))))] = true
	}
	if len(seen) < 6 {
		t.Errorf("numbers of speakers: %v", seen)
	}
}

// TestFirstPair checks that of several pairs of clusters with the least gap the one is taken whose first members come first.
func TestFirstPair(t *testing.T) {
	for _, c := range []struct {
		groups string
		most   int
		want   []int
	}{
		{"0 1 2", 2, []int{0, 0, 1}},
		{"0 9 1 8", 3, []int{0, 1, 0, 2}},
		{"5 0 9 1 8", 4, []int{0, 1, 2, 1, 3}},
		{"0 4 2", 2, []int{0, 1, 0}},
		{"2 0 4", 2, []int{0, 0, 1}},
		{"9 0 2 7 4 11", 4, []int{0, 1, 1, 0, 2, 3}},
	} {
		var groups [][][]int
		for _, n := range ints(t, c.groups) {
			groups = append(groups, [][]int{{n}})
		}
		if got, e := talk.Cluster(groups, c.most, api.Frac{}); e != api.OK || !slices.Equal(got, c.want) {
			t.Errorf("%s, most %d: %v and error %d", c.groups, c.most, got, e)
		}
	}
}

// TestManyGroups checks as many groups as there may be.
func TestManyGroups(t *testing.T) {
	r := rand.New(rand.NewSource(3))
	var groups [][][]int
	for range api.MaxGroups {
		groups = append(groups, randomGroup(r, 3, api.MaxVector, api.MaxComponent))
	}
	speakers, e := talk.Cluster(groups, 1, api.Frac{})
	if e != api.OK || !slices.Equal(speakers, make([]int, api.MaxGroups)) {
		t.Errorf("one speaker: %v and error %d", speakers, e)
	}
	speakers, e = talk.Cluster(groups, api.MaxGroups, api.Frac{})
	for i := range speakers {
		if speakers[i] != i {
			t.Errorf("the group %d: speaker %d", i, speakers[i])
		}
	}
	expect(t, "Cluster", e)
	// As many vectors as there may be, in unequal groups.
	full := [][][]int{randomGroup(r, 1, 2, 9), randomGroup(r, api.MaxVectors-3, 2, 9), randomGroup(r, 2, 2, 9)}
	expectClusters(t, full, 2, api.Frac{})
	expectClusters(t, full, 3, fraction(r, 100, 1))
}

// TestGroupErrors checks which groups are refused, by both functions.
func TestGroupErrors(t *testing.T) {
	good := [][]int{{1, 2}}
	huge := make([][]int, api.MaxVectors+1)
	many := slices.Repeat(good, api.MaxVectors)
	for _, c := range []struct {
		what   string
		groups [][][]int
		want   api.Errno
	}{
		{"good groups", [][][]int{good, good}, api.OK},
		{"no vectors in front", [][][]int{{}, good}, api.ErrArg},
		{"no vectors behind", [][][]int{good, nil}, api.ErrArg},
		{"no vectors at all", [][][]int{nil, nil}, api.ErrArg},
		{"an empty vector", [][][]int{{{}}, {{}}}, api.ErrArg},
		{"other components in a group", [][][]int{good, {{1, 2}, {1}}}, api.ErrArg},
		{"other components in another group", [][][]int{good, {{1}}}, api.ErrArg},
		{"more components in another group", [][][]int{good, {{1, 2, 3}}}, api.ErrArg},
		{"the greatest components", [][][]int{{{api.MaxComponent}}, {{-api.MaxComponent}}}, api.OK},
		{"a component that is too great", [][][]int{{{0}}, {{api.MaxComponent + 1}}}, api.ErrArg},
		{"a component that is too little", [][][]int{{{-api.MaxComponent - 1}}, {{0}}}, api.ErrArg},
		{"an extreme component", [][][]int{{{math.MinInt}}, {{math.MaxInt}}}, api.ErrArg},
		{"as many components as there may be", [][][]int{{make([]int, api.MaxVector)}, {make([]int, api.MaxVector)}}, api.OK},
		{"too many components", [][][]int{{make([]int, api.MaxVector+1)}, {make([]int, api.MaxVector+1)}}, api.ErrArg},
		{"too many vectors together", [][][]int{good, many}, api.ErrLong},
		{"too many vectors, which are none", [][][]int{huge, nil}, api.ErrLong},
	} {
		if g, e := talk.Gap(c.groups[0], c.groups[1]); e != c.want || e != api.OK && !isEmpty(g) {
			t.Errorf("Gap, %s: error %d", c.what, e)
		}
		if l, e := talk.Cluster(c.groups, 1, api.Frac{}); e != c.want || e != api.OK && !isEmpty(l) {
			t.Errorf("Cluster, %s: error %d", c.what, e)
		}
		if c.want == api.ErrLong {
			if _, e := talk.Cluster(c.groups, 0, frac.Of(-1)); e != api.ErrLong {
				t.Errorf("Cluster, %s, and the rest is wrong, too: error %d", c.what, e)
			}
		}
	}
}

// TestClusterErrors checks what only Cluster refuses.
func TestClusterErrors(t *testing.T) {
	good := [][]int{{1, 2}}
	enough := slices.Repeat([][][]int{good}, api.MaxGroups)
	negativeZero := api.Frac{Neg: true, N: []uint32{0}}
	for _, c := range []struct {
		what   string
		groups [][][]int
		most   int
		limit  api.Frac
		want   api.Errno
	}{
		{"as many groups as there may be", enough, 1, api.Frac{}, api.OK},
		{"too many groups", append(enough, good), 1, api.Frac{}, api.ErrLong},
		{"too many groups without vectors", make([][][]int, api.MaxGroups+1), 0, f(t, "-1"), api.ErrLong},
		{"no speakers", enough, 0, api.Frac{}, api.ErrArg},
		{"fewer than no speakers", enough, math.MinInt, api.Frac{}, api.ErrArg},
		{"a negative limit", enough, 1, f(t, "-1/1000000000000"), api.ErrArg},
		{"a limit that is 0, written as a negative number", enough, 1, negativeZero, api.OK},
		{"no groups", nil, 1, api.Frac{}, api.OK},
		{"no groups, as an empty list", [][][]int{}, 1, api.Frac{}, api.OK},
		{"no groups and no speakers", nil, 0, api.Frac{}, api.ErrArg},
		{"no groups and a negative limit", nil, 1, f(t, "-1"), api.ErrArg},
		{"one group without vectors", [][][]int{{}}, 1, api.Frac{}, api.ErrArg},
	} {
		l, e := talk.Cluster(c.groups, c.most, c.limit)
		if e != c.want || len(l) != len(c.groups) && e == api.OK || e != api.OK && !isEmpty(l) {
			t.Errorf("%s: %v and error %d", c.what, l, e)
		}
	}
}

// spread returns the sum of the squared distances of vectors to their center.
func spread(group [][]int) *big.Rat {
	sum := new(big.Rat)
	center := centerOf(group)
	for _, x := range group {
		for i, n := range x {
			d := new(big.Rat).SetInt64(int64(n))
			d.Sub(d, center[i])
			sum.Add(sum, d.Mul(d, d))
		}
	}
	return sum
}
