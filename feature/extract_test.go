// Tests of P3.4: Valid, Extract.

package feature_test

import (
	"math"
	"math/rand"
	"slices"
	"testing"

	"earshot/api"
	"earshot/feature"
	"earshot/wave"
)

// evenEdges returns count + 1 edges from 0 on, at equal distances.
func evenEdges(count, width int) []int {
	edges := make([]int, count+1)
	for i := range edges {
		edges[i] = i * width
	}
	return edges
}

// plain returns a recipe with which frames of two samples have two bands.
func plain() api.Recipe {
	return api.Recipe{Num: 0, Den: 1, Size: 2, Step: 2, Window: api.WindowFlat, Points: 2, Edges: []int{0, 1, 2}}
}

// full returns a recipe with the greatest numbers of all kinds.
func full() api.Recipe {
	return api.Recipe{Num: 1024, Den: 1024, Size: 64, Step: api.MaxFrame, Window: api.WindowWelch, Points: 64, Edges: evenEdges(32, 2), Cepstra: 32, Differences: true, Center: true}
}

// randomRecipe returns a valid recipe.
func randomRecipe(r *rand.Rand) api.Recipe {
	points := lengths()[r.Intn(7)]
	edges := randomEdges(r, points, 33)
	den := 1 + r.Intn([]int{3, 1024}[r.Intn(2)])
	recipe := api.Recipe{
		Num: r.Intn(den + 1), Den: den, Size: 1 + r.Intn(points), Step: 1 + r.Intn(20), Window: api.WindowKind(1 + r.Intn(3)), Points: points, Edges: edges,
		Differences: r.Intn(2) == 1, Center: r.Intn(2) == 1,
	}
	if r.Intn(2) == 1 {
		recipe.Cepstra = 1 + r.Intn(lengthOf(len(edges)-1))
	}
	return recipe
}

// randomSamples returns up to most samples; few of them have great absolute values.
func randomSamples(r *rand.Rand, most int) []int {
	return randomList(r, r.Intn(most+1), []int{3, 200, 32767}[r.Intn(3)])
}

// done returns the list that a function has returned without an error.
func done(t *testing.T, x []int, e api.Errno) []int {
	t.Helper()
	if e != api.OK {
		t.Fatalf("error %d", e)
	}
	return x
}

// featuresOf returns the features of samples, with one call after the other as the document says.
func featuresOf(t *testing.T, samples []int, r api.Recipe) [][]int {
	x, e := wave.Emphasize(samples, r.Num, r.Den)
	x = done(t, x, e)
	var v [][]int
	for from := 0; from+r.Size <= len(x); from += r.Step {
		frame, e := wave.Weigh(x[from:from+r.Size], r.Window)
		frame = append(done(t, frame, e), make([]int, r.Points-r.Size)...)
		logs := bandsOf(spectrumOf(frame), r.Edges)
		for b := range logs {
			logs[b], e = feature.Log(logs[b])
			done(t, nil, e)
		}
		if r.Cepstra > 0 {
			logs, e = feature.Cepstrum(logs, r.Cepstra)
			done(t, logs, e)
		}
		v = append(v, logs)
	}
	if r.Differences {
		v = differencesOf(v)
	}
	if r.Center && len(v) > 0 {
		v = centeredOf(v)
	}
	return v
}

func TestExtractExamples(t *testing.T) {
	changed := func(change func(*api.Recipe)) api.Recipe {
		r := plain()
		change(&r)
		return r
	}
	for _, c := range []struct {
		r       api.Recipe
		samples []int
		want    [][]int
	}{
		{plain(), []int{100, 100, 7, -7, 5}, [][]int{{244, -16}, {-16, 106}}},
		{plain(), []int{1, 1}, [][]int{{32, -16}}},
		{changed(func(r *api.Recipe) { r.Step = 1 }), []int{1, 1, -1}, [][]int{{32, -16}, {-16, 0}}},
		{changed(func(r *api.Recipe) { r.Size = 1 }), []int{4, 9, -4}, [][]int{{64, 50}, {64, 50}}},
		{changed(func(r *api.Recipe) { r.Num = 1 }), []int{3, 3, 4, 5}, [][]int{{50, 32}, {32, -16}}},
		{changed(func(r *api.Recipe) { r.Edges = []int{1, 2} }), []int{100, 100, 7, -7}, [][]int{{-16}, {106}}},
		{changed(func(r *api.Recipe) { r.Cepstra = 1 }), []int{100, 100, 7, -7}, [][]int{{228}, {90}}},
		{changed(func(r *api.Recipe) { r.Cepstra = 2 }), []int{100, 100, 7, -7}, [][]int{{228, 184}, {90, -86}}},
		{changed(func(r *api.Recipe) { r.Differences = true }), []int{100, 100, 7, -7}, [][]int{{244, -16, -260, 122}, {-16, 106, -260, 122}}},
		{changed(func(r *api.Recipe) { r.Center = true }), []int{100, 100, 7, -7}, [][]int{{130, -61}, {-130, 61}}},
		{changed(func(r *api.Recipe) { r.Center, r.Differences = true, true }), []int{100, 100, 7, -7}, [][]int{{130, -61, 0, 0}, {-130, 61, 0, 0}}},
	} {
		got, e := feature.Extract(api.Recording{Rate: 10, Samples: c.samples}, c.r)
		expectVectors(t, "Extract", got, e, c.want)
	}
}

// TestExtractDefinition compares with the steps one after the other.
func TestExtractDefinition(t *testing.T) {
	rnd := rand.New(rand.NewSource(12))
	for range 2000 {
		r, samples := randomRecipe(rnd), randomSamples(rnd, 200)
		if !feature.Valid(r) {
			t.Fatalf("%v is not valid", r)
		}
		got, e := feature.Extract(api.Recording{Rate: 8000, Samples: samples}, r)
		expectVectors(t, "Extract", got, e, featuresOf(t, samples, r))
	}
}

// TestExtractSigns checks that features stay the same if all samples change their sign.
func TestExtractSigns(t *testing.T) {
	rnd := rand.New(rand.NewSource(13))
	for range 1000 {
		r, samples := randomRecipe(rnd), randomSamples(rnd, 300)
		want, e := feature.Extract(api.Recording{Rate: 1, Samples: samples}, r)
		if e != api.OK {
			t.Fatalf("error %d", e)
		}
		for i := range samples {
			samples[i] = -samples[i]
		}
		got, e := feature.Extract(api.Recording{Rate: 1, Samples: samples}, r)
		expectVectors(t, "Extract of changed signs", got, e, want)
	}
}

// TestExtractPieces checks that a frame has the same features in its recording and alone, if the recipe looks at no other frame (P0.2).
func TestExtractPieces(t *testing.T) {
	rnd := rand.New(rand.NewSource(14))
	for range 500 {
		r, w := randomRecipe(rnd), api.Recording{Rate: 1, Samples: randomSamples(rnd, 200)}
		r.Num, r.Differences, r.Center = 0, false, false
		v, e := feature.Extract(w, r)
		if e != api.OK {
			t.Fatalf("error %d", e)
		}
		for i, x := range v {
			piece, e := wave.Clip(w, api.Segment{From: i * r.Step, To: i*r.Step + r.Size})
			if e != api.OK {
				t.Fatalf("error %d", e)
			}
			got, e := feature.Extract(piece, r)
			expectVectors(t, "Extract of one frame", got, e, [][]int{x})
		}
	}
}

// TestExtractLimits checks recipes with the greatest numbers, on the greatest samples.
func TestExtractLimits(t *testing.T) {
	samples := make([]int, 64+4*api.MaxFrame)
	for i := range samples {
		samples[i] = 32767 - 65535*(i%2)
	}
	for _, r := range []api.Recipe{full(), plain()} {
		got, e := feature.Extract(api.Recording{Rate: api.MaxRate, Samples: samples}, r)
		expectVectors(t, "Extract", got, e, featuresOf(t, samples, r))
	}
	got, e := feature.Extract(api.Recording{Rate: 1, Samples: samples}, full())
	if e != api.OK || len(got) != 5 || len(got[0]) != api.MaxVector {
		t.Errorf("the longest vectors: %d of them, error %d", len(got), e)
	}
}

// TestExtractNothing checks recordings with no frame.
func TestExtractNothing(t *testing.T) {
	for _, r := range []api.Recipe{plain(), full()} {
		for _, samples := range [][]int{nil, {}, {1}, make([]int, r.Size-1)} {
			got, e := feature.Extract(api.Recording{Rate: 1, Samples: samples}, r)
			expectVectors(t, "Extract", got, e, nil)
		}
	}
}

// TestExtractManyFrames checks the greatest number of frames.
func TestExtractManyFrames(t *testing.T) {
	for _, size := range []int{1, 2, 64} {
		r := plain()
		r.Size, r.Points, r.Differences, r.Center = size, 64, true, true
		for _, step := range []int{1, 3} {
			r.Step = step
			w := api.Recording{Rate: 1, Samples: make([]int, size+(api.MaxVectors-1)*step)}
			w.Samples[len(w.Samples)-1] = 5
			got, e := feature.Extract(w, r)
			expectVectors(t, "Extract", got, e, featuresOf(t, w.Samples, r))
			for _, more := range []int{step, 100000} {
				w.Samples = make([]int, len(w.Samples)+more)
				got, e = feature.Extract(w, r)
				expectError(t, "too many frames", len(got) == 0, e, api.ErrLong)
			}
		}
	}
}

// TestExtractErrors checks recordings and recipes that are not valid, also with too many frames.
func TestExtractErrors(t *testing.T) {
	good := api.Recording{Rate: 1, Samples: []int{1, 2, 3, 4}}
	for _, w := range []api.Recording{
		{}, {Rate: 0, Samples: good.Samples}, {Rate: -1}, {Rate: api.MaxRate + 1}, {Rate: 1, Samples: []int{32768}}, {Rate: 1, Samples: []int{1, 2, -32769}}, {Rate: 1, Samples: make([]int, api.MaxSamples+1)},
	} {
		for _, r := range []api.Recipe{plain(), full(), {}} {
			got, e := feature.Extract(w, r)
			expectError(t, "the recording", len(got) == 0, e, api.ErrArg)
		}
	}
	for _, samples := range [][]int{nil, good.Samples, make([]int, api.MaxSamples)} {
		for _, change := range wrongChanges() {
			r := plain()
			change(&r)
			got, e := feature.Extract(api.Recording{Rate: 1, Samples: samples}, r)
			expectError(t, "the recipe", len(got) == 0, e, api.ErrArg)
		}
	}
}

// wrongChanges returns changes by which the recipe plain is not valid any more.
func wrongChanges() []func(*api.Recipe) {
	var list []func(*api.Recipe)
	add := func(change func(*api.Recipe)) { list = append(list, change) }
	for _, n := range []int{-1, 0, 1025, math.MaxInt, math.MinInt} {
		add(func(r *api.Recipe) { r.Den = n })
		add(func(r *api.Recipe) { r.Num, r.Den = n, n })
	}
	for _, n := range []int{-1, 2, 1024, math.MaxInt, math.MinInt} {
		add(func(r *api.Recipe) { r.Num = n })
	}
	add(func(r *api.Recipe) { r.Num, r.Den = 4, 3 })
	for _, n := range []int{-2, -1, 0, 1, 3, 5, 6, 65, 128, math.MaxInt, math.MinInt} {
		add(func(r *api.Recipe) { r.Points = n })
	}
	for _, n := range []int{-1, 0, 3, 64, math.MaxInt, math.MinInt} {
		add(func(r *api.Recipe) { r.Size = n })
	}
	for _, n := range []int{-1, 0, api.MaxFrame + 1, math.MaxInt, math.MinInt} {
		add(func(r *api.Recipe) { r.Step = n })
	}
	for _, n := range []int{-1, 0, 4, math.MaxInt, math.MinInt} {
		add(func(r *api.Recipe) { r.Window = api.WindowKind(n) })
	}
	for _, edges := range [][]int{nil, {}, {0}, {2}, {0, 3}, {-1, 1}, {1, 1}, {2, 1}, {0, 1, 1}, {0, 1, 2, 3}, {math.MinInt, math.MaxInt}} {
		add(func(r *api.Recipe) { r.Edges = edges })
	}
	for _, n := range []int{-1, 3, 4, 32, math.MaxInt, math.MinInt} {
		add(func(r *api.Recipe) { r.Cepstra = n })
	}
	return list
}

// TestValid checks each field of a recipe at its limits.
func TestValid(t *testing.T) {
	good := []api.Recipe{plain(), full()}
	add := func(change func(*api.Recipe)) {
		r := plain()
		change(&r)
		good = append(good, r)
	}
	for _, n := range []int{1, 2, 1024} {
		add(func(r *api.Recipe) { r.Den = n })
		add(func(r *api.Recipe) { r.Num, r.Den = n, n })
		add(func(r *api.Recipe) { r.Num, r.Den = n-1, n })
	}
	for _, n := range lengths() {
		add(func(r *api.Recipe) { r.Points, r.Size, r.Edges = n, n, []int{0, n} })
		add(func(r *api.Recipe) { r.Points, r.Size, r.Edges = n, 1, []int{n - 1, n} })
		add(func(r *api.Recipe) { r.Points, r.Size, r.Edges = n, n, evenEdges(min(n, 32), 1) })
	}
	for _, n := range []int{1, api.MaxFrame} {
		add(func(r *api.Recipe) { r.Step = n })
	}
	for _, kind := range []api.WindowKind{api.WindowFlat, api.WindowTriangle, api.WindowWelch} {
		add(func(r *api.Recipe) { r.Window = kind })
	}
	for bands := 1; bands <= 32; bands++ {
		add(func(r *api.Recipe) { r.Points, r.Edges, r.Cepstra = 32, evenEdges(bands, 1), lengthOf(bands) })
		add(func(r *api.Recipe) { r.Points, r.Edges, r.Cepstra = 32, evenEdges(bands, 1), 0 })
	}
	for _, r := range good {
		if !feature.Valid(r) {
			t.Errorf("%v is not valid", r)
		}
	}
}

// TestNotValid checks each field of a recipe beyond its limits.
func TestNotValid(t *testing.T) {
	changes := wrongChanges()
	for bands := 1; bands <= 32; bands++ {
		changes = append(changes, func(r *api.Recipe) { r.Points, r.Edges, r.Cepstra = 32, evenEdges(bands, 1), lengthOf(bands)+1 })
	}
	changes = append(changes, func(r *api.Recipe) { r.Points, r.Edges = 64, evenEdges(33, 1) }, func(r *api.Recipe) { r.Points, r.Edges = 64, evenEdges(64, 1) }, func(r *api.Recipe) { *r = api.Recipe{} })
	for _, change := range changes {
		r := plain()
		change(&r)
		if feature.Valid(r) {
			t.Errorf("%v is valid", r)
		}
	}
	r := full()
	r.Edges = slices.Insert(r.Edges, 1, 1)
	if feature.Valid(r) {
		t.Error("34 edges are valid")
	}
}
