// Tests of P0.1, P0.6 and the rules R2 to R8.

package gram_test

import (
	"math/rand"
	"slices"
	"strings"
	"testing"

	"earshot/api"
	"earshot/frac"
	"earshot/gram"
)

// arguments are arguments of all functions.
type arguments struct {
	order, words int
	sentences    [][]int // those after the first two serve only to count
	other        api.Table
	least        int
	l            api.Language
	history      []int
	w            int
	c            api.Classes
	spoken       []int // a history of words that have classes
	g            api.Grammar
	said         []int
	rules        []int
}

// tables returns the tables of arguments.
func (a *arguments) tables() []*api.Table { return []*api.Table{&a.other, &a.l.Table} }

// numbers returns the numbers of arguments.
func (a *arguments) numbers() []*api.Frac {
	list := []*api.Frac{&a.l.Amount}
	for i := range a.l.Mix {
		list = append(list, &a.l.Mix[i])
	}
	for i := range a.c.In {
		list = append(list, &a.c.In[i])
	}
	for i := range a.g.Rules {
		list = append(list, &a.g.Rules[i].Weight)
	}
	return list
}

// clone returns a copy of arguments and of their memory.
func (a arguments) clone() arguments {
	a.sentences = slices.Clone(a.sentences)
	for i, s := range a.sentences {
		a.sentences[i] = slices.Clone(s)
	}
	for _, table := range a.tables() {
		table.List = slices.Clone(table.List)
		for i, g := range table.List {
			table.List[i].Words = slices.Clone(g.Words)
		}
	}
	a.l.Mix, a.c.In, a.g.Rules = slices.Clone(a.l.Mix), slices.Clone(a.c.In), slices.Clone(a.g.Rules)
	for _, x := range a.numbers() {
		*x = copyNumber(*x)
	}
	a.history, a.c.Of, a.spoken, a.said, a.rules = slices.Clone(a.history), slices.Clone(a.c.Of), slices.Clone(a.spoken), slices.Clone(a.said), slices.Clone(a.rules)
	return a
}

func copyNumber(a api.Frac) api.Frac {
	return api.Frac{Neg: a.Neg, N: slices.Clone(a.N), D: slices.Clone(a.D)}
}

// memory is the memory of arguments or of a result.
type memory struct {
	numbers []api.Frac
	lists   [][]int
}

// memory returns all lists and numbers of arguments.
func (a arguments) memory() memory {
	m := memory{lists: append([][]int{a.history, a.c.Of, a.spoken, a.said, a.rules}, a.sentences...)}
	for _, table := range a.tables() {
		for _, g := range table.List {
			m.lists = append(m.lists, g.Words)
		}
	}
	for _, x := range a.numbers() {
		m.numbers = append(m.numbers, *x)
	}
	return m
}

// clone returns a copy.
func (m memory) clone() memory {
	var c memory
	for _, a := range m.numbers {
		c.numbers = append(c.numbers, copyNumber(a))
	}
	for _, list := range m.lists {
		c.lists = append(c.lists, slices.Clone(list))
	}
	return c
}

// equal reports whether the same numbers, with the same digits, are in two memories.
func (m memory) equal(n memory) bool {
	return slices.EqualFunc(m.numbers, n.numbers, func(a, b api.Frac) bool {
		return a.Neg == b.Neg && slices.Equal(a.N, b.N) && slices.Equal(a.D, b.D)
	}) && slices.EqualFunc(m.lists, n.lists, slices.Equal)
}

// parts returns each list and each number alone.
func (m memory) parts() []memory {
	var list []memory
	for i := range m.numbers {
		list = append(list, memory{numbers: m.numbers[i : i+1]})
	}
	for i := range m.lists {
		list = append(list, memory{lists: m.lists[i : i+1]})
	}
	return list
}

// spoil overwrites a memory, also what is behind the ends of lists.
func (m memory) spoil() {
	for _, a := range m.numbers {
		for _, digits := range [][]uint32{a.N[:cap(a.N)], a.D[:cap(a.D)]} {
			for i := range digits {
				digits[i] = 0xBAD
			}
		}
	}
	for _, list := range m.lists {
		for i := range list[:cap(list)] {
			list[:cap(list)][i] = -99
		}
	}
}

// result is what a function returns: lists and numbers, in order, and its error. Integers that are no lists are a list of their own, without those that are 0.
type result struct {
	what string
	memory
	e api.Errno
}

func sameResults(a, b result) bool { return a.what == b.what && a.equal(b.memory) && a.e == b.e }

// isZero reports whether there are only zero values.
func (a result) isZero() bool {
	return !slices.ContainsFunc(a.numbers, func(x api.Frac) bool { return !isZero(x) }) && len(slices.Concat(a.lists...)) == 0
}

// tableResult returns a result that is a table.
func tableResult(what string, t api.Table, e api.Errno) result {
	x := result{what: what, e: e}
	if !isNothing(t) {
		x.lists = append(x.lists, []int{t.Order, t.Words})
	}
	for _, g := range t.List {
		x.lists = append(x.lists, g.Words, []int{g.N})
	}
	return x
}

func numberResult(what string, a api.Frac, e api.Errno) result {
	return result{what, memory{numbers: []api.Frac{a}}, e}
}

func listResult(what string, list []int, e api.Errno) result {
	return result{what, memory{lists: [][]int{list}}, e}
}

// results returns the results of all functions.
func (a arguments) results() []result {
	list := []result{
		{what: "CheckTable", e: gram.CheckTable(a.other)}, {what: "Check", e: gram.Check(a.l)}, {what: "CheckClasses", e: gram.CheckClasses(a.c)}, {what: "CheckGrammar", e: gram.CheckGrammar(a.g)},
	}
	table, e := gram.Count(a.order, a.words, a.sentences...)
	list = append(list, tableResult("Count", table, e))
	table, e = gram.Merge(a.other, a.l.Table)
	list = append(list, tableResult("Merge", table, e))
	table, e = gram.Merge(a.other, a.other)
	list = append(list, tableResult("Merge with itself", table, e))
	table, e = gram.Lower(a.other)
	list = append(list, tableResult("Lower", table, e))
	table, e = gram.Drop(a.other, a.least)
	list = append(list, tableResult("Drop", table, e))
	return slices.Concat(list, a.languageResults(), a.grammarResults())
}

// languageResults returns the results of the functions of language models and classes.
func (a arguments) languageResults() []result {
	w, e := gram.Weight(a.l, a.history, a.w)
	list := []result{numberResult("Weight", w, e)}
	row, e := gram.Row(a.l, a.history)
	list = append(list, result{"Row", memory{numbers: row}, e})
	next, e := gram.Next(a.l, a.history, a.w)
	list = append(list, listResult("Next", next, e))
	w, e = gram.Sentence(a.l, a.sentences[0])
	list = append(list, numberResult("Sentence", w, e))
	n, e := gram.Usual(a.l, a.sentences[0], a.sentences[1])
	usual := result{what: "Usual", e: e}
	if n != 0 {
		usual.lists = [][]int{{n}}
	}
	w, e = gram.Classed(a.l, a.c, a.spoken, a.w)
	return append(list, usual, numberResult("Classed", w, e))
}

// grammarResults returns the results of the functions of grammars.
func (a arguments) grammarResults() []result {
	w, e := gram.Says(a.g, a.said)
	list := []result{numberResult("Says", w, e)}
	best, w, e := gram.Best(a.g, a.said)
	list = append(list, result{"Best", memory{[]api.Frac{w}, [][]int{best}}, e})
	s, w, e := gram.Derive(a.g, a.rules)
	list = append(list, result{"Derive", memory{[]api.Frac{w}, [][]int{s}}, e})
	if e == api.OK && len(s) > 0 {
		best, w, e = gram.Best(a.g, s)
		list = append(list, result{"Best of what was derived", memory{[]api.Frac{w}, [][]int{best}}, e})
	}
	return list
}

// randomArguments returns arguments that most functions take.
func randomArguments(t *testing.T, r *rand.Rand) arguments {
	t.Helper()
	a := arguments{order: 1 + r.Intn(4), words: 1 + r.Intn(3), least: r.Intn(4)}
	for range 2 + r.Intn(3) {
		a.sentences = append(a.sentences, randomSentence(r, a.words, 5))
	}
	a.other = randomTable(t, r, a.order, a.words)
	a.l = randomLanguage(t, r, randomTable(t, r, a.order, a.words))
	a.history, a.w = randomHistory(r, a.l.Table), r.Intn(a.words+1)
	a.c = randomClasses(t, r, a.words+r.Intn(3), a.words)
	a.spoken = randomHistory(r, api.Table{Order: a.order, Words: len(a.c.Of)})
	a.g = randomGrammar(t, r)
	a.said = randomSentence(r, a.g.Words, 4)
	if found := derivations(a.g, 0, a.said); len(found) > 0 {
		a.rules = found[r.Intn(len(found))].rules
	}
	return a
}

// disguised returns a number that is not canonical and has the value of x, which is not negative.
func disguised(r *rand.Rand, x api.Frac) api.Frac {
	x = frac.Canon(x)
	if len(x.D) == 0 {
		x.D = []uint32{1}
	}
	low := slices.Repeat([]uint32{0}, r.Intn(2))
	return api.Frac{Neg: len(x.N) == 0 && r.Intn(2) == 0, N: slices.Concat(low, x.N, []uint32{0}), D: slices.Concat(low, x.D, []uint32{0})}
}

// TestMemory checks that arguments stay as they are, and that results share no memory with arguments, nor with each other (rule R4); equal calls have equal results afterwards (rule R8), and all numbers are canonical (rule R6).
func TestMemory(t *testing.T) {
	r := rand.New(rand.NewSource(12))
	for range 400 {
		given := randomArguments(t, r)
		a := given.clone()
		results := a.results()
		var want []result
		for _, x := range results {
			want = append(want, result{x.what, x.memory.clone(), x.e})
		}
		if !a.memory().equal(given.memory()) {
			t.Fatalf("%v has become %v", given, a)
		}
		a.memory().spoil()
		if !slices.EqualFunc(results, want, sameResults) {
			t.Fatalf("results for %v share memory with arguments", given)
		}
		if again := given.results(); !slices.EqualFunc(again, want, sameResults) {
			t.Fatalf("results for %v are different", given)
		}
		for _, x := range results {
			expectOwnMemory(t, x)
		}
	}
}

// expectOwnMemory checks that the numbers of a result are canonical, and that no two of its parts share memory. It spoils the result.
func expectOwnMemory(t *testing.T, x result) {
	t.Helper()
	for _, a := range x.numbers {
		if !isCanonical(a) {
			t.Errorf("%s: %v is not canonical", x.what, a)
		}
	}
	parts := x.parts()
	for i, part := range parts {
		var rest, want []memory
		for _, other := range parts[i+1:] {
			rest, want = append(rest, other), append(want, other.clone())
		}
		part.spoil()
		if !slices.EqualFunc(rest, want, memory.equal) {
			t.Fatalf("parts of %s share memory", x.what)
		}
	}
}

// TestNilAndEmpty checks that nil and empty lists are the same value (rule R3).
func TestNilAndEmpty(t *testing.T) {
	a := arguments{order: 1, words: 1, sentences: [][]int{nil, nil}, other: api.Table{Order: 1, Words: 1}, l: api.Language{Table: api.Table{Order: 1, Words: 1}, By: api.Typed}, c: classesOf(t, "1", "1"), g: repeating(t)}
	b := a.clone()
	b.sentences = [][]int{{}, {}}
	b.other.List, b.l.Table.List, b.l.Mix = []api.Gram{}, []api.Gram{}, []api.Frac{}
	b.history, b.spoken, b.said, b.rules = []int{}, []int{}, []int{}, []int{}
	if !slices.EqualFunc(a.results(), b.results(), sameResults) {
		t.Errorf("%v and %v", a, b)
	}
	nothing := arguments{sentences: [][]int{{}, {}}, other: api.Table{List: []api.Gram{}}, c: api.Classes{Of: []int{}, In: []api.Frac{}}, g: api.Grammar{Rules: []api.Production{}}}
	if !slices.EqualFunc(arguments{sentences: make([][]int, 2)}.results(), nothing.results(), sameResults) {
		t.Error("nothing")
	}
}

// TestAnyNumbers checks that numbers which are not canonical count by their values (rule R5).
func TestAnyNumbers(t *testing.T) {
	r := rand.New(rand.NewSource(13))
	for range 300 {
		a := randomArguments(t, r)
		b := a.clone()
		for _, x := range b.numbers() {
			*x = disguised(r, *x)
		}
		if !slices.EqualFunc(a.results(), b.results(), sameResults) {
			t.Fatalf("results for %v and %v", a, b)
		}
	}
}

// TestAnyArguments checks that functions return for all arguments, with zero values beside errors (P0.1, rules R2 and R5).
func TestAnyArguments(t *testing.T) {
	r := rand.New(rand.NewSource(14))
	tables, models, classes, grammars := wrongTables(t), wrongModels(t), wrongClasses(t), wrongGrammars(t)
	edges := edgeInts()
	edge := func() int { return edges[r.Intn(len(edges))] }
	refused := map[string]bool{}
	for range 3000 {
		a := randomArguments(t, r)
		for _, spoil := range []func(){
			func() { a.order, a.words, a.least = edge(), edge(), edge() },
			func() { a.other = tables[r.Intn(len(tables))] },
			func() { a.l = models[r.Intn(len(models))] },
			func() { a.l.Table = tables[r.Intn(len(tables))] },
			func() { a.c = classes[r.Intn(len(classes))] },
			func() { a.g = grammars[r.Intn(len(grammars))] },
			func() { a.sentences[r.Intn(2)], a.history, a.spoken = []int{1, edge()}, []int{edge()}, []int{edge()} },
			func() { a.w, a.said, a.rules = edge(), []int{edge()}, []int{edge(), edge()} },
			func() { a.sentences[1], a.said, a.rules = times(501, 1), times(502, 0), times(503, 1) },
		} {
			if r.Intn(4) == 0 {
				spoil()
			}
		}
		for _, x := range a.results() {
			if x.e != api.OK && !x.isZero() {
				t.Errorf("%s of %v: %v and error %d", x.what, a, x.memory, x.e)
			}
			if !slices.Contains([]api.Errno{api.OK, api.ErrArg, api.ErrLong}, x.e) && (x.e != api.ErrNone || !strings.HasPrefix(x.what, "Best")) {
				t.Errorf("%s of %v: error %d", x.what, a, x.e)
			}
			refused[x.what] = refused[x.what] || x.e != api.OK
		}
	}
	for what, ever := range refused {
		if !ever && what != "Best of what was derived" {
			t.Errorf("%s was never refused", what)
		}
	}
}
