// Tests of P0.1 and the rules R1 to R8.

package feature_test

import (
	"math"
	"math/rand"
	"slices"
	"testing"

	"earshot/api"
	"earshot/feature"
)

// arguments are arguments of all functions.
type arguments struct {
	x, edges []int
	v, book  [][]int
	recipe   api.Recipe
	n        int
}

// clone returns a copy of arguments and of their memory.
func (a arguments) clone() arguments {
	a.x, a.edges = slices.Clone(a.x), slices.Clone(a.edges)
	a.v, a.book = cloneVectors(a.v), cloneVectors(a.book)
	a.recipe.Edges = slices.Clone(a.recipe.Edges)
	return a
}

// spoil overwrites the memory of arguments.
func (a arguments) spoil() {
	spoil(a.x)
	spoil(a.edges)
	spoil(a.recipe.Edges)
	spoilVectors(a.v)
	spoilVectors(a.book)
}

// equal reports whether the memory of two arguments has the same elements.
func (a arguments) equal(b arguments) bool {
	return slices.Equal(a.x, b.x) && slices.Equal(a.edges, b.edges) && slices.Equal(a.recipe.Edges, b.recipe.Edges) && equalVectors(a.v, b.v) && equalVectors(a.book, b.book)
}

// result is what a function returns: its lists, a number and its error.
type result struct {
	what  string
	lists [][]int
	n     int
	e     api.Errno
}

// equal reports whether two results are the same.
func (a result) equal(b result) bool {
	return a.e == b.e && a.n == b.n && equalVectors(a.lists, b.lists)
}

// results returns the results of all functions.
func (a arguments) results() []result {
	var list []result
	lists := func(what string, lists [][]int, n int, e api.Errno) { list = append(list, result{what, lists, n, e}) }
	add := func(what string, x []int, e api.Errno) { lists(what, [][]int{x}, 0, e) }
	number := func(what string, n int, e api.Errno) { lists(what, nil, n, e) }
	vectors := func(what string, v [][]int, e api.Errno) { lists(what, v, 0, e) }

	n, e := feature.Cosine(a.n)
	number("Cosine", n, e)
	x, e := feature.Transform(a.x)
	add("Transform", x, e)
	x, e = feature.Inverse(a.x)
	add("Inverse", x, e)
	x, e = feature.Spectrum(a.x)
	add("Spectrum", x, e)
	n, e = feature.Slack(a.x)
	number("Slack", n, e)
	x, e = feature.Bands(a.x, a.edges)
	add("Bands", x, e)
	n, e = feature.Log(a.n)
	number("Log", n, e)
	x, e = feature.Cepstrum(a.x, a.n)
	add("Cepstrum", x, e)
	v, e := feature.Differences(a.v)
	vectors("Differences", v, e)
	v, e = feature.Center(a.v)
	vectors("Center", v, e)
	if !feature.Valid(a.recipe) {
		number("Valid", 0, api.ErrArg)
	}
	v, e = feature.Extract(api.Recording{Rate: 1, Samples: a.x}, a.recipe)
	vectors("Extract", v, e)
	return append(list, a.codingResults()...)
}

// codingResults returns the results of the functions of vectors and codebooks.
func (a arguments) codingResults() []result {
	n, e := feature.Distance(a.x, a.edges)
	distance := result{"Distance", nil, n, e}
	n, _, e = feature.Nearest(a.x, a.book)
	near := result{"Nearest", nil, n, e}
	x, e := feature.Quantize(a.v, a.book)
	symbols := result{"Quantize", [][]int{x}, 0, e}
	n, e = feature.Cost(a.v, a.book)
	cost := result{"Cost", nil, n, e}
	v, e := feature.Improve(a.v, a.book)
	better := result{"Improve", v, 0, e}
	v, n, e = feature.Train(a.v, a.book, a.n)
	trained := result{"Train", v, n, e}
	v, e = feature.Seeds(a.v, a.n)
	return []result{distance, near, symbols, cost, better, trained, {"Seeds", v, 0, e}}
}

// randomArguments returns arguments that most functions take.
func randomArguments(r *rand.Rand) arguments {
	v, book := randomCoding(r)
	recipe := randomRecipe(r)
	recipe.Step = 1
	length := lengths()[r.Intn(7)]
	return arguments{x: randomList(r, length, 300), edges: randomEdges(r, length, 65), v: v, book: book, recipe: recipe, n: r.Intn(20)}
}

// TestMemory checks that arguments stay as they are, and that results share no memory with arguments, nor with each other (rule R4); equal calls have equal results afterwards (rule R8).
func TestMemory(t *testing.T) {
	r := rand.New(rand.NewSource(19))
	for range 300 {
		given := randomArguments(r)
		a := given.clone()
		results := a.results()
		want := a.clone().results()
		if !a.equal(given) {
			t.Fatalf("%v has become %v", given, a)
		}
		a.spoil()
		for i, got := range results {
			if !got.equal(want[i]) {
				t.Fatalf("%s shares memory with its argument", got.what)
			}
			for j, list := range got.lists {
				spoil(list)
				if !equalVectors(got.lists[j+1:], want[i].lists[j+1:]) {
					t.Fatalf("lists of %s share memory", got.what)
				}
			}
		}
		if !slices.EqualFunc(given.results(), want, result.equal) {
			t.Fatalf("results for %v are different", given)
		}
	}
}

// TestMemoryOfExamples checks that codewords that stay, and vectors that are seeds, are copied, also where they are given twice.
func TestMemoryOfExamples(t *testing.T) {
	twice := []int{7}
	a := arguments{v: [][]int{{1}, twice, twice}, book: [][]int{twice, twice, {900}}}
	for name, f := range map[string]func() ([][]int, api.Errno){
		"Improve": func() ([][]int, api.Errno) { return feature.Improve(a.v, a.book) },
		"Train": func() ([][]int, api.Errno) {
			got, _, e := feature.Train(a.v, a.book, 0)
			return got, e
		},
		"Seeds":  func() ([][]int, api.Errno) { return feature.Seeds(a.v, 3) },
		"Center": func() ([][]int, api.Errno) { return feature.Center(a.v[:1]) },
	} {
		got, e := f()
		if e != api.OK {
			t.Fatalf("%s: error %d", name, e)
		}
		for i, x := range got {
			rest := cloneVectors(got[i+1:])
			spoil(x)
			if !equalVectors(rest, got[i+1:]) {
				t.Errorf("lists of %s share memory", name)
			}
		}
	}
	if !equalVectors(a.v, [][]int{{1}, {7}, {7}}) || !equalVectors(a.book, [][]int{{7}, {7}, {900}}) {
		t.Errorf("arguments have become %v and %v", a.v, a.book)
	}
}

// TestNilAndEmpty checks that nil and empty lists are the same value (rule R3).
func TestNilAndEmpty(t *testing.T) {
	for n := range 3 {
		empty := arguments{x: []int{}, edges: []int{}, v: [][]int{}, book: [][]int{}, recipe: plain(), n: n}
		if !slices.EqualFunc(arguments{recipe: plain(), n: n}.results(), empty.results(), result.equal) {
			t.Errorf("results for nothing and %d", n)
		}
		full := arguments{x: []int{1}, edges: []int{}, v: [][]int{{}}, book: [][]int{{}, {}}, n: n}
		if !slices.EqualFunc(arguments{x: []int{1}, v: [][]int{nil}, book: [][]int{nil, nil}, n: n}.results(), full.results(), result.equal) {
			t.Errorf("results for empty vectors and %d", n)
		}
	}
}

// TestAnyArguments checks that functions return for all arguments, with zero values beside errors (P0.1, rules R2 and R5).
func TestAnyArguments(t *testing.T) {
	recipe := func(m, n int) api.Recipe {
		return api.Recipe{Num: m, Den: n, Size: m, Step: n, Window: api.WindowKind(m), Points: n, Edges: []int{0, m, n}, Cepstra: m}
	}
	for _, m := range edgeInts() {
		for _, n := range edgeInts() {
			a := arguments{x: []int{m, n, 1, 0}, edges: []int{m, n}, v: [][]int{{m}, {n}, {1}}, book: [][]int{{n}, {m}}, recipe: recipe(m, n), n: n}
			for _, got := range a.results() {
				if got.e != api.OK && got.e != api.ErrArg || got.e != api.OK && (got.n != 0 || len(slices.Concat(got.lists...)) > 0) {
					t.Errorf("%s of %d and %d: %v, %d and error %d", got.what, m, n, got.lists, got.n, got.e)
				}
			}
			if got, e := feature.Extract(api.Recording{Rate: m, Samples: []int{n}}, full()); e != api.OK && (e != api.ErrArg || len(got) > 0) {
				t.Errorf("Extract of %d and %d: %v and error %d", m, n, got, e)
			}
		}
	}
}

// TestOrderOfErrors checks that too many vectors come before all other errors (rule R1).
func TestOrderOfErrors(t *testing.T) {
	for _, n := range []int{-1, 0, 1001, math.MinInt} {
		for _, got := range (arguments{v: tooLong(), book: [][]int{{}}, n: n}).results() {
			switch got.what {
			case "Differences", "Center", "Quantize", "Cost", "Improve", "Train", "Seeds":
				expectError(t, got.what, got.n == 0 && len(got.lists) < 2, got.e, api.ErrLong)
			}
		}
	}
}

// TestExampleOfTheDocument checks that the vectors 0 and 9 have, with the codebook 1, 8, the symbols 0 and 1.
func TestExampleOfTheDocument(t *testing.T) {
	got, e := feature.Quantize([][]int{{0}, {9}}, [][]int{{1}, {8}})
	expectList(t, "Quantize", got, e, 0, 1)
}
