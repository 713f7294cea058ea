// Tests of Check and of setups that are refused (P10.4).

package talk_test

import (
	"math"
	"slices"
	"strconv"
	"strings"
	"testing"

	"earshot/api"
	"earshot/frac"
	"earshot/talk"
)

// simple is a setup with the words yes, no, red, blue and uh, which have the symbols 1 to 5.
func simple(t *testing.T) api.Setup {
	t.Helper()
	return spelled(t, color(t), []string{"yes", "no", "red", "blue", "uh"}, []int{1}, []int{2}, []int{3}, []int{4}, []int{5})
}

// flaw is a way to change a setup, and the error that it causes.
type flaw struct {
	what   string
	change func(s *api.Setup)
	want   api.Errno
}

// flaws are changes of the setup simple.
func flaws() []flaw {
	return slices.Concat(recipeFlaws(), taskFlaws(), []flaw{
		{"nothing", func(s *api.Setup) {}, api.OK},
		{"no rate", func(s *api.Setup) { s.Rate = 0 }, api.ErrArg},
		{"the least rate", func(s *api.Setup) { s.Rate = 1 }, api.OK},
		{"the greatest rate", func(s *api.Setup) { s.Rate = api.MaxRate }, api.OK},
		{"too great a rate", func(s *api.Setup) { s.Rate = api.MaxRate + 1 }, api.ErrArg},
		{"no block", func(s *api.Setup) { s.Gate.Block = 0 }, api.ErrArg},
		{"too great a block", func(s *api.Setup) { s.Gate.Block = math.MaxInt }, api.ErrArg},
		{"a Low above High", func(s *api.Setup) { s.Gate.Low = 17 }, api.ErrArg},
		{"too little a Longest", func(s *api.Setup) { s.Gate.Longest = 1 }, api.ErrArg},
		{"another number of names", func(s *api.Setup) { s.Names = s.Names[:4] }, api.ErrArg},
		{"one name more", func(s *api.Setup) { s.Names = append(s.Names, "more") }, api.ErrArg},
		{"no names", func(s *api.Setup) { s.Names = nil }, api.ErrArg},
		{"equal names", func(s *api.Setup) { s.Names[4] = "red" }, api.ErrArg},
		{"an empty name", func(s *api.Setup) { s.Names[4] = "" }, api.ErrArg},
		{"a name that is no word", func(s *api.Setup) { s.Names[0] = "yes " }, api.ErrArg},
		{"the longest name", func(s *api.Setup) { s.Names[0] = strings.Repeat("!", 40) }, api.OK},
		{"too long a name", func(s *api.Setup) { s.Names[0] = strings.Repeat("!", 41) }, api.ErrArg},
		{"a plan without slots", func(s *api.Setup) { s.Plan.Slots = nil }, api.ErrArg},
		{"a plan with a wrong weight", func(s *api.Setup) { s.Plan.Slots[0].Sure = frac.Of(2) }, api.ErrArg},
		{"a plan without prompt", func(s *api.Setup) { s.Plan.Prompt = 3 }, api.ErrArg},
		{"no speakers", func(s *api.Setup) { s.Most = 0 }, api.ErrArg},
		{"the most speakers", func(s *api.Setup) { s.Most = math.MaxInt }, api.OK},
		{"a negative limit", func(s *api.Setup) { s.Limit = api.Frac{Neg: true, N: []uint32{1}, D: []uint32{0, 1}} }, api.ErrArg},
		{"a limit of 0", func(s *api.Setup) { s.Limit = api.Frac{Neg: true} }, api.OK},
	})
}

// recipeFlaws are changes of the recipe and of the codebook.
func recipeFlaws() []flaw {
	return []flaw{
		{"a recipe that centers", func(s *api.Setup) { s.Recipe.Center = true }, api.ErrArg},
		{"a recipe that does not exist", func(s *api.Setup) { s.Recipe = api.Recipe{} }, api.ErrArg},
		{"a recipe that is too large", func(s *api.Setup) { s.Recipe.Size = math.MaxInt }, api.ErrArg},
		{"a recipe with a wrong step", func(s *api.Setup) { s.Recipe.Step = 0 }, api.ErrArg},
		{"vectors of two components", func(s *api.Setup) { s.Recipe.Differences = true }, api.ErrArg},
		{"vectors of two components, and codewords too", func(s *api.Setup) {
			s.Recipe.Differences = true
			for i := range s.Book {
				s.Book[i] = append(s.Book[i], 0)
			}
		}, api.OK},
		{"the largest vectors", func(s *api.Setup) {
			s.Recipe.Points, s.Recipe.Edges, s.Recipe.Cepstra, s.Recipe.Differences = 64, nil, 32, true
			for i := range 33 {
				s.Recipe.Edges = append(s.Recipe.Edges, i)
			}
			for i := range s.Book {
				s.Book[i] = make([]int, 64)
			}
		}, api.OK},
		{"fewer cepstra than components", func(s *api.Setup) { s.Recipe.Cepstra = 1; s.Recipe.Points = 2; s.Recipe.Edges = []int{0, 1, 2} }, api.OK},
		{"no codewords", func(s *api.Setup) { s.Book = nil }, api.ErrArg},
		{"fewer codewords than symbols", func(s *api.Setup) { s.Book = s.Book[:4] }, api.ErrArg},
		{"more codewords than symbols", func(s *api.Setup) { s.Book = append(s.Book, []int{1}) }, api.ErrArg},
		{"codewords of another length", func(s *api.Setup) { s.Book[4] = []int{1, 2} }, api.ErrArg},
		{"an empty codeword", func(s *api.Setup) { s.Book[4] = nil }, api.ErrArg},
		{"a component that is too great", func(s *api.Setup) { s.Book[4] = []int{api.MaxComponent + 1} }, api.ErrArg},
		{"equal codewords", func(s *api.Setup) { s.Book[4] = s.Book[3] }, api.OK},
		{"too many codewords", func(s *api.Setup) { s.Book = slices.Repeat(s.Book, 60) }, api.ErrArg},
		{"as many codewords as a list of vectors has", func(s *api.Setup) { s.Book = make([][]int, api.MaxVectors) }, api.ErrArg},
		{"more codewords than a list of vectors has", func(s *api.Setup) { s.Book = make([][]int, api.MaxVectors+1) }, api.ErrLong},
	}
}

// taskFlaws are changes of the task.
func taskFlaws() []flaw {
	return []flaw{
		{"no task", func(s *api.Setup) { s.Task = api.Task{} }, api.ErrArg},
		{"a task with more words", func(s *api.Setup) { s.Task.Words = append(s.Task.Words, s.Task.Words[0]) }, api.ErrArg},
		{"a task with a wrong weight", func(s *api.Setup) { s.Task.Words[0][0].Weight = f2(1, 2) }, api.ErrArg},
		{"a task with a phone that does not exist", func(s *api.Setup) { s.Task.Words[0][0].Phones = []int{6} }, api.ErrArg},
		{"a task with a wrong language model", func(s *api.Setup) { s.Task.Language.Amount = frac.Of(1) }, api.ErrArg},
		{"a task with a wrong model", func(s *api.Setup) { s.Task.Phones[0].End[0] = f2(1, 2) }, api.ErrArg},
		{"models of fewer symbols", func(s *api.Setup) { s.Task.Phones = letters(4) }, api.ErrArg},
		{"models of more symbols", func(s *api.Setup) { s.Task.Phones = letters(6) }, api.ErrArg},
		{"too many models", func(s *api.Setup) { s.Task.Phones = slices.Repeat(s.Task.Phones[:1], api.MaxModels+1) }, api.ErrLong},
		{"as many models as there may be", func(s *api.Setup) { s.Task.Phones = slices.Repeat(s.Task.Phones, api.MaxModels/5) }, api.OK},
		{"too many variants", func(s *api.Setup) { s.Task.Words[1] = make([]api.Variant, api.MaxVariants+1) }, api.ErrLong},
		{"too many phones of a variant", func(s *api.Setup) { s.Task.Words[1][0].Phones = make([]int, api.MaxSpelled+1) }, api.ErrLong},
		{"too many n-grams", func(s *api.Setup) { s.Task.Language.Table.List = make([]api.Gram, api.MaxGrams+1) }, api.ErrLong},
		{"too many states", func(s *api.Setup) { s.Task.Phones[2].Start = make([]api.Frac, api.MaxStates+1) }, api.ErrLong},
	}
}

// f2 returns n / d.
func f2(n, d int) api.Frac {
	a, _ := frac.Make(n, d)
	return a
}

// TestCheck checks which setups are refused, by all functions that take one.
func TestCheck(t *testing.T) {
	for _, c := range flaws() {
		s := simple(t)
		c.change(&s)
		expectRefused(t, c.what, s, c.want)
	}
	expectRefused(t, "the zero setup", api.Setup{}, api.ErrArg)
}

// expectRefused checks that a setup has an error, also with a recording that has another one.
func expectRefused(t *testing.T, what string, s api.Setup, want api.Errno) {
	t.Helper()
	if e := talk.Check(s); e != want {
		t.Errorf("Check, %s: error %d, not %d", what, e, want)
	}
	if a, e := talk.Start(s); e != want || (a == nil) != (want != api.OK) {
		t.Errorf("Start, %s: error %d, not %d", what, e, want)
	}
	for _, r := range []api.Recording{{Rate: s.Rate}, {Rate: s.Rate, Samples: make([]int, api.MaxSamples+1)}, {Rate: -1}} {
		turns, standing, e := talk.Replay(s, r)
		if want != api.OK && (e != want || !isEmpty(turns) || !isEmpty(standing)) {
			t.Errorf("Replay, %s: error %d, not %d", what, e, want)
		}
	}
}

// TestErrorOrder checks that what exceeds a bound is found first, wherever it is.
func TestErrorOrder(t *testing.T) {
	for _, long := range flaws() {
		if long.want != api.ErrLong {
			continue
		}
		for _, wrong := range flaws() {
			s := simple(t)
			wrong.change(&s)
			if wrong.what != "no task" { // what is not there cannot be too long
				long.change(&s)
				expectRefused(t, wrong.what+" and "+long.what, s, api.ErrLong)
			}
		}
	}
}

// TestManyNames checks a task with as many words as there may be.
func TestManyNames(t *testing.T) {
	var names []string
	var words [][]int
	for i := range api.MaxWords {
		names, words = append(names, "w"+strconv.Itoa(i)), append(words, []int{1 + i%10, 1 + i/10%10, 1 + i/100})
	}
	for i := range words {
		words[i][2] = 1 + words[i][2]%10
	}
	s := spelled(t, color(t), names, words...)
	if e := talk.Check(s); e != api.OK {
		t.Errorf("error %d", e)
	}
	s.Names[1999] = "w0"
	if e := talk.Check(s); e != api.ErrArg {
		t.Errorf("equal names: error %d", e)
	}
}
