// Tests of P0.1, P0.6 and the rules R2 to R8.

package sound_test

import (
	"math/rand"
	"slices"
	"strings"
	"testing"

	"earshot/api"
	"earshot/frac"
	"earshot/sound"
)

// arguments are arguments of all functions.
type arguments struct {
	l      api.Lexicon
	rules  []api.Rewrite
	words  []string
	phones []int
	most   int
}

// clone returns a copy of arguments and of their memory.
func (a arguments) clone() arguments {
	a.l.Entries, a.rules = slices.Clone(a.l.Entries), slices.Clone(a.rules)
	for i, x := range a.l.Entries {
		a.l.Entries[i].Phones, a.l.Entries[i].Weight = slices.Clone(x.Phones), copyNumber(x.Weight)
	}
	for i, x := range a.rules {
		a.rules[i] = api.Rewrite{From: slices.Clone(x.From), To: slices.Clone(x.To), Left: slices.Clone(x.Left), Right: slices.Clone(x.Right), Weight: copyNumber(x.Weight)}
	}
	a.words, a.phones = slices.Clone(a.words), slices.Clone(a.phones)
	return a
}

func copyNumber(a api.Frac) api.Frac {
	return api.Frac{Neg: a.Neg, N: slices.Clone(a.N), D: slices.Clone(a.D)}
}

// memory is the memory of arguments or of a result.
type memory struct {
	numbers []api.Frac
	lists   [][]int
	words   [][]string
}

// memory returns all lists and numbers of arguments.
func (a arguments) memory() memory {
	m := memory{lists: [][]int{a.phones}, words: [][]string{a.words}}
	for _, x := range a.l.Entries {
		m.numbers, m.lists = append(m.numbers, x.Weight), append(m.lists, x.Phones)
	}
	for _, x := range a.rules {
		m.numbers, m.lists = append(m.numbers, x.Weight), append(m.lists, x.From, x.To, x.Left, x.Right)
	}
	return m
}

// clone returns a copy.
func (m memory) clone() memory {
	var c memory
	for _, a := range m.numbers {
		c.numbers = append(c.numbers, copyNumber(a))
	}
	for _, list := range m.lists {
		c.lists = append(c.lists, slices.Clone(list))
	}
	for _, list := range m.words {
		c.words = append(c.words, slices.Clone(list))
	}
	return c
}

// equal reports whether the same numbers, with the same digits, and words are in two memories.
func (m memory) equal(n memory) bool {
	return slices.EqualFunc(m.numbers, n.numbers, func(a, b api.Frac) bool {
		return a.Neg == b.Neg && slices.Equal(a.N, b.N) && slices.Equal(a.D, b.D)
	}) && slices.EqualFunc(m.lists, n.lists, slices.Equal) && slices.EqualFunc(m.words, n.words, slices.Equal)
}

// parts returns each list and each number alone.
func (m memory) parts() []memory {
	var list []memory
	for i := range m.numbers {
		list = append(list, memory{numbers: m.numbers[i : i+1]})
	}
	for i := range m.lists {
		list = append(list, memory{lists: m.lists[i : i+1]})
	}
	for i := range m.words {
		list = append(list, memory{words: m.words[i : i+1]})
	}
	return list
}

// spoil overwrites a memory, also what is behind the ends of lists.
func (m memory) spoil() {
	for _, a := range m.numbers {
		for _, digits := range [][]uint32{a.N[:cap(a.N)], a.D[:cap(a.D)]} {
			for i := range digits {
				digits[i] = 0xBAD
			}
		}
	}
	for _, list := range m.lists {
		for i := range list[:cap(list)] {
			list[:cap(list)][i] = -99
		}
	}
	for _, list := range m.words {
		for i := range list[:cap(list)] {
			list[:cap(list)][i] = "spoiled"
		}
	}
}

// result is what a function returns: words, lists and numbers, in order, and its error. Words that are no lists are in what.
type result struct {
	what string
	memory
	e api.Errno
}

func sameResults(a, b result) bool { return a.what == b.what && a.equal(b.memory) && a.e == b.e }

// isZero reports whether there are only zero values.
func (a result) isZero() bool {
	for _, x := range a.numbers {
		if !isZero(x) {
			return false
		}
	}
	return len(slices.Concat(a.lists...)) == 0 && len(slices.Concat(a.words...)) == 0 && !strings.Contains(a.what, ":")
}

// formResult returns a result that consists of forms.
func formResult(what string, forms []api.Form, e api.Errno) result {
	x := result{what: what, e: e}
	for _, form := range forms {
		x.numbers, x.lists = append(x.numbers, form.Weight), append(x.lists, form.Phones)
	}
	return x
}

// results returns the results of all functions.
func (a arguments) results() []result {
	var list []result
	made, e := sound.Make(a.l.Entries)
	x := result{what: "Make", e: e}
	for _, y := range made.Entries {
		x.what += " " + y.Word + ":"
		x.numbers, x.lists = append(x.numbers, y.Weight), append(x.lists, y.Phones)
	}
	list = append(list, x)
	words, e := sound.Words(a.l)
	list = append(list, result{"Words", memory{words: [][]string{words}}, e})
	for _, word := range a.words {
		forms, e := sound.Variants(a.l, word)
		list = append(list, formResult("Variants", forms, e))
	}
	forms, e := sound.Apply(a.rules, a.phones)
	list = append(list, formResult("Apply", forms, e))
	forms, e = sound.Pronounce(a.l, a.rules, a.words)
	list = append(list, formResult("Pronounce", forms, e))
	w, e := sound.Weight(a.l, a.rules, a.words, a.phones)
	list = append(list, result{"Weight", memory{numbers: []api.Frac{w}}, e})
	readings, e := sound.Read(a.l, a.rules, a.phones, a.most)
	x = result{what: "Read", e: e}
	for _, y := range readings {
		x.numbers, x.words = append(x.numbers, y.Weight), append(x.words, y.Words)
	}
	list = append(list, x)
	sets, e := sound.Homophones(a.l)
	list = append(list, result{"Homophones", memory{words: sets}, e})
	return append(list, a.flat()...)
}

// flat returns the results of the functions of the tree, and of those that return true or false.
func (a arguments) flat() []result {
	nodes, e := sound.Tree(a.l)
	tree := result{what: "Tree", e: e}
	for _, y := range nodes {
		tree.numbers, tree.lists = append(tree.numbers, y.Best), append(tree.lists, y.Ends, []int{y.Phone, y.Parent})
	}
	n, e := sound.Walk(a.l, a.phones)
	walk := result{what: "Walk", e: e}
	if n != 0 {
		walk.lists = [][]int{{n}}
	}
	checks := result{what: "Valid and Rules"}
	if sound.Valid(a.l) {
		checks.what += ": valid"
	}
	if sound.Rules(a.rules) {
		checks.what += ": rules"
	}
	return []result{tree, walk, checks}
}

// randomArguments returns arguments that most functions take.
func randomArguments(t *testing.T, r *rand.Rand) arguments {
	t.Helper()
	a := arguments{l: randomLexicon(t, r, 1+r.Intn(3), 2), rules: randomRules(r, 3), words: randomWords(r, 3, 3), most: r.Intn(4)}
	a.phones = randomPhones(r, 3)
	if i := r.Intn(len(a.l.Entries)); r.Intn(2) == 0 {
		a.phones = slices.Clone(a.l.Entries[i].Phones)
	}
	return a
}

// disguised returns a number that is not canonical and has the value of x, which is positive.
func disguised(r *rand.Rand, x api.Frac) api.Frac {
	x = frac.Canon(x)
	if len(x.D) == 0 {
		x.D = []uint32{1}
	}
	low := slices.Repeat([]uint32{0}, r.Intn(2))
	return api.Frac{N: slices.Concat(low, x.N, []uint32{0}), D: slices.Concat(low, x.D, []uint32{0})}
}

// TestMemory checks that arguments stay as they are, and that results share no memory with arguments, nor with each other (rule R4); equal calls have equal results afterwards (rule R8), and all numbers are canonical (rule R6).
func TestMemory(t *testing.T) {
	r := rand.New(rand.NewSource(12))
	for range 300 {
		given := randomArguments(t, r)
		a := given.clone()
		results := a.results()
		var want []result
		for _, x := range results {
			want = append(want, result{x.what, x.memory.clone(), x.e})
		}
		if !a.memory().equal(given.memory()) {
			t.Fatalf("%v has become %v", given, a)
		}
		a.memory().spoil()
		if !slices.EqualFunc(results, want, sameResults) {
			t.Fatalf("results for %v share memory with arguments", given)
		}
		if again := given.results(); !slices.EqualFunc(again, want, sameResults) {
			t.Fatalf("results for %v are different", given)
		}
		for _, x := range results {
			expectOwnMemory(t, x)
		}
	}
}

// expectOwnMemory checks that the numbers of a result are canonical, and that no two of its parts share memory. It spoils the result.
func expectOwnMemory(t *testing.T, x result) {
	t.Helper()
	for _, a := range x.numbers {
		if !isCanonical(a) {
			t.Errorf("%s: %v is not canonical", x.what, a)
		}
	}
	parts := x.parts()
	for i, part := range parts {
		var rest, want []memory
		for _, other := range parts[i+1:] {
			rest, want = append(rest, other), append(want, other.clone())
		}
		part.spoil()
		if !slices.EqualFunc(rest, want, memory.equal) {
			t.Fatalf("parts of %s share memory", x.what)
		}
	}
}

// TestMemoryOfMany checks the memory of results with many parts that are alike.
func TestMemoryOfMany(t *testing.T) {
	r := rand.New(rand.NewSource(13))
	l := made(t, entry(t, "a", "1"), entry(t, "a", "1", 1), entry(t, "b", "1"), entry(t, "c", "1", 1), entry(t, "c", "1", 1, 1))
	for range 5 {
		a := arguments{l: l, rules: append(randomRules(r, 2), deleting(t, "1/2", 1)...), words: strings.Fields("a b a c"), phones: times(2, 1), most: 2}
		for _, x := range a.results() {
			if x.e != api.OK {
				t.Fatalf("%s: error %d", x.what, x.e)
			}
			expectOwnMemory(t, x)
		}
	}
}

// TestNilAndEmpty checks that nil and empty lists are the same value (rule R3).
func TestNilAndEmpty(t *testing.T) {
	one := f(t, "1")
	a := arguments{l: lexicon(api.Entry{Word: "a", Weight: one}, api.Entry{Word: "b", Weight: one}), rules: []api.Rewrite{{From: []int{1}, Weight: one}}, most: 1}
	b := a.clone()
	b.words, b.phones = []string{}, []int{}
	for i := range b.l.Entries {
		b.l.Entries[i].Phones = []int{}
	}
	b.rules[0].To, b.rules[0].Left, b.rules[0].Right = []int{}, []int{}, []int{}
	if !slices.EqualFunc(a.results(), b.results(), sameResults) {
		t.Errorf("%v and %v", a, b)
	}
	mixed := b.l
	mixed.Entries = []api.Entry{b.l.Entries[0], {Word: "a", Weight: one}}
	if sound.Valid(mixed) || showLexicon(made(t, mixed.Entries...)) != "a:  (1)" {
		t.Error("entries with nil and empty lists are the same")
	}
	if !slices.EqualFunc(arguments{}.results(), arguments{l: lexicon([]api.Entry{}...), rules: []api.Rewrite{}, words: []string{}, phones: []int{}}.results(), sameResults) {
		t.Error("nothing")
	}
	wrong := []api.Rewrite{{From: []int{}, Weight: one}}
	if sound.Rules(wrong) || sound.Rules([]api.Rewrite{{Weight: one}}) {
		t.Error("rules without From")
	}
}

// TestAnyNumbers checks that numbers which are not canonical count by their values (rule R5).
func TestAnyNumbers(t *testing.T) {
	r := rand.New(rand.NewSource(14))
	for range 200 {
		a := randomArguments(t, r)
		b := a.clone()
		for i, x := range b.l.Entries {
			b.l.Entries[i].Weight = disguised(r, x.Weight)
		}
		for i, x := range b.rules {
			b.rules[i].Weight = disguised(r, x.Weight)
		}
		if !slices.EqualFunc(a.results(), b.results(), sameResults) {
			t.Fatalf("results for %v and %v", a, b)
		}
	}
}

// TestAnyArguments checks that functions return for all arguments, with zero values beside errors (P0.1, rules R2 and R5).
func TestAnyArguments(t *testing.T) {
	lexicons := []api.Lexicon{{}, example(t), lexicon(manyWords(1001)...), lexicon(variants("a", 1000)...), lexicon(entry(t, "a", "1/2")), {Entries: make([]api.Entry, 3)}}
	for _, x := range wrongEntries(t) {
		lexicons = append(lexicons, lexicon(x))
	}
	rules := append(wrongRules(t), nil, toFour(t), make([]api.Rewrite, 2))
	texts := []string{"", "a", "b", "c", "\x00", "\xff\xfe", strings.Repeat("a", 100)}
	numbers := edgeInts()
	for i := range max(len(lexicons), len(rules)) {
		n := numbers[i%len(numbers)]
		a := arguments{l: lexicons[i%len(lexicons)], rules: rules[i%len(rules)], words: texts[:i%8], phones: []int{n, 1}, most: numbers[i*7%len(numbers)]}
		if i%3 == 0 {
			a.l, a.words = lexicons[1], texts[1:3]
		}
		if i%5 == 0 {
			a.phones = times(i, 1)
		}
		for _, x := range a.results() {
			if x.e != api.OK && !x.isZero() {
				t.Errorf("%s of %v: %v and error %d", x.what, a, x.memory, x.e)
			}
			if !slices.Contains([]api.Errno{api.OK, api.ErrArg, api.ErrLong, api.ErrNone}, x.e) {
				t.Errorf("%s of %v: error %d", x.what, a, x.e)
			}
		}
	}
}
