// Tests of P0.1, of the errors that all functions share, and of the rules R1 to R8.

package lattice_test

import (
	"math/rand"
	"slices"
	"testing"

	"earshot/api"
	"earshot/frac"
	"earshot/lattice"
)

// arguments are arguments of all functions.
type arguments struct {
	x     api.Task
	o     []int
	l     api.Lattice
	m     api.Language
	path  []int
	n     int
	ratio api.Frac
	term  []int
}

// visit calls functions for all numbers and lists of integers of arguments.
func (a *arguments) visit(number func(x *api.Frac), list func(l *[]int)) {
	row := func(l []api.Frac) {
		for i := range l {
			number(&l[i])
		}
	}
	for _, m := range a.x.Phones {
		for _, l := range slices.Concat([][]api.Frac{m.Start, m.End}, m.Move, m.Say) {
			row(l)
		}
	}
	for _, word := range a.x.Words {
		for k := range word {
			number(&word[k].Weight)
			list(&word[k].Phones)
		}
	}
	for _, m := range []*api.Language{&a.x.Language, &a.m} {
		for i := range m.Table.List {
			list(&m.Table.List[i].Words)
		}
		row(m.Mix)
		number(&m.Amount)
	}
	for i := range a.l.Arcs {
		number(&a.l.Arcs[i].Weight)
	}
	number(&a.ratio)
	for _, l := range []*[]int{&a.o, &a.path, &a.term} {
		list(l)
	}
}

// clone returns a copy of arguments and of their memory.
func (a arguments) clone() arguments {
	copyRows := func(rows [][]api.Frac) [][]api.Frac {
		rows = slices.Clone(rows)
		for i, l := range rows {
			rows[i] = slices.Clone(l)
		}
		return rows
	}
	a.x.Phones = slices.Clone(a.x.Phones)
	for i, m := range a.x.Phones {
		a.x.Phones[i] = api.Model{Start: slices.Clone(m.Start), Move: copyRows(m.Move), End: slices.Clone(m.End), Say: copyRows(m.Say)}
	}
	a.x.Words = slices.Clone(a.x.Words)
	for i, word := range a.x.Words {
		a.x.Words[i] = slices.Clone(word)
	}
	for _, m := range []*api.Language{&a.x.Language, &a.m} {
		m.Table.List, m.Mix = slices.Clone(m.Table.List), slices.Clone(m.Mix)
	}
	a.l.Arcs = slices.Clone(a.l.Arcs)
	a.visit(func(x *api.Frac) { *x = copyNumber(*x) }, func(l *[]int) { *l = slices.Clone(*l) })
	return a
}

func copyNumber(a api.Frac) api.Frac {
	return api.Frac{Neg: a.Neg, N: slices.Clone(a.N), D: slices.Clone(a.D)}
}

// memory is the memory of arguments or of a result.
type memory struct {
	numbers []api.Frac
	lists   [][]int
}

// memory returns all lists and numbers of arguments.
func (a arguments) memory() memory {
	var m memory
	a.visit(func(x *api.Frac) { m.numbers = append(m.numbers, *x) }, func(l *[]int) { m.lists = append(m.lists, *l) })
	return m
}

// clone returns a copy.
func (m memory) clone() memory {
	var c memory
	for _, a := range m.numbers {
		c.numbers = append(c.numbers, copyNumber(a))
	}
	for _, list := range m.lists {
		c.lists = append(c.lists, slices.Clone(list))
	}
	return c
}

// equal reports whether the same numbers, with the same digits, are in two memories.
func (m memory) equal(n memory) bool {
	return slices.EqualFunc(m.numbers, n.numbers, func(a, b api.Frac) bool {
		return a.Neg == b.Neg && slices.Equal(a.N, b.N) && slices.Equal(a.D, b.D)
	}) && slices.EqualFunc(m.lists, n.lists, slices.Equal)
}

// parts returns each list and each number alone.
func (m memory) parts() []memory {
	var list []memory
	for i := range m.numbers {
		list = append(list, memory{numbers: m.numbers[i : i+1]})
	}
	for i := range m.lists {
		list = append(list, memory{lists: m.lists[i : i+1]})
	}
	return list
}

// spoil overwrites a memory, also what is behind the ends of lists.
func (m memory) spoil() {
	for _, a := range m.numbers {
		for _, digits := range [][]uint32{a.N[:cap(a.N)], a.D[:cap(a.D)]} {
			for i := range digits {
				digits[i] = 0xBAD
			}
		}
	}
	for _, list := range m.lists {
		for i := range list[:cap(list)] {
			list[:cap(list)][i] = -99
		}
	}
}

// result is what a function returns, and its error. Integers are lists of their own.
type result struct {
	what string
	memory
	e api.Errno
}

func sameResults(a, b result) bool { return a.what == b.what && a.equal(b.memory) && a.e == b.e }

// isZero reports whether there are only zero values.
func (a result) isZero() bool {
	return !slices.ContainsFunc(a.numbers, func(x api.Frac) bool { return !isZero(x) }) && len(slices.Concat(a.lists...)) == 0
}

func numberResult(what string, w api.Frac, e api.Errno) result {
	return result{what, memory{numbers: []api.Frac{w}}, e}
}

func latticeResult(what string, l api.Lattice, e api.Errno) result {
	x := result{what: what, e: e}
	if l.Frames != 0 {
		x.lists = append(x.lists, []int{l.Frames})
	}
	for _, a := range l.Arcs {
		x.numbers, x.lists = append(x.numbers, a.Weight), append(x.lists, []int{a.From, a.To, a.Word, a.Variant})
	}
	return x
}

func routesResult(what string, routes []api.Route, e api.Errno) result {
	x := result{what: what, e: e}
	for _, r := range routes {
		x.numbers, x.lists = append(x.numbers, r.Weight), append(x.lists, r.Arcs, r.Words)
	}
	return x
}

func framesResult(frames [][]api.Share, e api.Errno) result {
	x := result{what: "Frames", e: e}
	for i, shares := range frames {
		for _, s := range shares {
			x.numbers, x.lists = append(x.numbers, s.Weight), append(x.lists, []int{i, s.Word})
		}
	}
	return x
}

func hitsResult(hits []api.Hit, e api.Errno) result {
	x := result{what: "Find", e: e}
	for _, h := range hits {
		x.numbers, x.lists = append(x.numbers, h.Weight), append(x.lists, []int{h.From, h.To})
	}
	return x
}

// results returns the results of all functions.
func (a arguments) results() []result {
	list := []result{{what: "Check", e: lattice.Check(a.l)}}
	l, e := lattice.Make(a.x, a.o)
	list = append(list, latticeResult("Make", l, e))
	l, e = lattice.Trim(a.l)
	list = append(list, latticeResult("Trim", l, e))
	w, e := lattice.Count(a.l)
	list = append(list, numberResult("Count", w, e))
	return append(list, a.languageResults()...)
}

// languageResults returns the results of all functions that have a lattice and a language model.
func (a arguments) languageResults() []result {
	w, e := lattice.Weight(a.l, a.m, a.path)
	list := []result{numberResult("Weight", w, e)}
	w, e = lattice.Total(a.l, a.m)
	list = append(list, numberResult("Total", w, e))
	best, e := lattice.Best(a.l, a.m)
	list = append(list, routesResult("Best", []api.Route{best}, e))
	routes, e := lattice.Routes(a.l, a.m, a.n)
	list = append(list, routesResult("Routes", routes, e))
	numbers, e := lattice.Parts(a.l, a.m)
	list = append(list, result{"Parts", memory{numbers: numbers}, e})
	l, e := lattice.Beam(a.l, a.m, a.ratio)
	list = append(list, latticeResult("Beam", l, e))
	frames, e := lattice.Frames(a.l, a.m)
	list = append(list, framesResult(frames, e))
	numbers, e = lattice.Cuts(a.l, a.m)
	list = append(list, result{"Cuts", memory{numbers: numbers}, e})
	hits, e := lattice.Find(a.l, a.m, a.term...)
	list = append(list, hitsResult(hits, e))
	w, e = lattice.Has(a.l, a.m, a.term...)
	list = append(list, numberResult("Has", w, e))
	w, e = lattice.Wrong(a.l, a.m, a.path)
	list = append(list, numberResult("Wrong", w, e))
	safest, w, e := lattice.Safest(a.l, a.m)
	x := routesResult("Safest", []api.Route{safest}, e)
	x.numbers = append(x.numbers, w)
	return append(list, x)
}

// randomArguments returns arguments that most functions take.
func randomArguments(t *testing.T, r *rand.Rand) arguments {
	t.Helper()
	a := arguments{x: randomTask(t, r, small), n: r.Intn(4), ratio: fraction(r, r.Intn(3), 2)}
	a.o = randomRecording(r, a.x, r.Intn(4))
	a.l, a.m = randomCase(t, r)
	p := pathsOf(t, a.l, a.m)
	if len(p.list) > 0 {
		a.path = p.list[r.Intn(len(p.list))]
	}
	a.term = randomTerm(r, p, a.m.Table.Words)
	return a
}

// TestMemory checks that arguments stay as they are, and that results share no memory with arguments, nor with each other (rule R4); equal calls have equal results afterwards (rule R8), and all numbers are canonical (rule R6).
func TestMemory(t *testing.T) {
	r := rand.New(rand.NewSource(20))
	for range 200 {
		given := randomArguments(t, r)
		a := given.clone()
		results := a.results()
		var want []result
		for _, x := range results {
			want = append(want, result{x.what, x.memory.clone(), x.e})
		}
		if !a.memory().equal(given.memory()) {
			t.Fatalf("%v has become %v", given, a)
		}
		a.memory().spoil()
		if !slices.EqualFunc(results, want, sameResults) {
			t.Fatalf("results for %v share memory with arguments", given)
		}
		if again := given.results(); !slices.EqualFunc(again, want, sameResults) {
			t.Fatalf("results for %v are different", given)
		}
		for _, x := range results {
			expectOwnMemory(t, x)
		}
	}
}

// expectOwnMemory checks that the numbers of a result are canonical, and that no two of its parts share memory. It spoils the result.
func expectOwnMemory(t *testing.T, x result) {
	t.Helper()
	for _, a := range x.numbers {
		if !isCanonical(a) {
			t.Errorf("%s: %v is not canonical", x.what, a)
		}
	}
	parts := x.parts()
	for i, part := range parts {
		var rest, want []memory
		for _, other := range parts[i+1:] {
			rest, want = append(rest, other), append(want, other.clone())
		}
		part.spoil()
		if !slices.EqualFunc(rest, want, memory.equal) {
			t.Fatalf("parts of %s share memory", x.what)
		}
	}
}

// TestNilAndEmpty checks that nil and empty lists are the same value (rule R3).
func TestNilAndEmpty(t *testing.T) {
	for _, frames := range []int{0, 1} {
		a := arguments{x: simple(t), l: api.Lattice{Frames: frames}, m: uniform(1)}
		b := a.clone()
		b.o, b.path, b.term = []int{}, []int{}, []int{}
		b.l.Arcs, b.m.Table.List, b.m.Mix = []api.Arc{}, []api.Gram{}, []api.Frac{}
		if !slices.EqualFunc(a.results(), b.results(), sameResults) {
			t.Errorf("%v and %v", a, b)
		}
	}
	nothing := arguments{x: api.Task{Phones: []api.Model{}, Words: [][]api.Variant{}}, l: api.Lattice{Arcs: []api.Arc{}}, term: []int{}}
	if !slices.EqualFunc(arguments{}.results(), nothing.results(), sameResults) {
		t.Error("nothing")
	}
}

// TestAnyNumbers checks that numbers which are not canonical count by their values (rule R5).
func TestAnyNumbers(t *testing.T) {
	r := rand.New(rand.NewSource(22))
	for range 200 {
		a := randomArguments(t, r)
		b := a.clone()
		b.visit(func(x *api.Frac) { *x = disguised(r, *x) }, func(*[]int) {})
		if !slices.EqualFunc(a.results(), b.results(), sameResults) {
			t.Fatalf("results for %v and %v", a, b)
		}
	}
}

// disguised returns a number with the same value that is not canonical.
func disguised(r *rand.Rand, a api.Frac) api.Frac {
	n, d := bigOf(a.N), bigOf(a.D)
	if d.Sign() == 0 {
		d.SetInt64(1)
	}
	digits := func(x uint64, zeros int) []uint32 {
		return append([]uint32{uint32(x), uint32(x >> 32)}, make([]uint32, zeros)...)
	}
	times := uint64(2 + r.Intn(1<<20))
	return api.Frac{Neg: n.Sign() == 0 || a.Neg, N: digits(n.Uint64()*times, r.Intn(3)), D: digits(d.Uint64()*times, r.Intn(3))}
}

// languageFlaws are language models that are wrong, for a lattice with the words 1 and 2, and their errors.
func languageFlaws() map[string]struct {
	m    api.Language
	want api.Errno
} {
	type flawed = struct {
		m    api.Language
		want api.Errno
	}
	long := uniform(2)
	long.Table.List = make([]api.Gram, api.MaxGrams+1)
	wrong := uniform(2)
	wrong.Table.Order = api.MaxOrder + 1
	unsmoothed := uniform(2)
	unsmoothed.Amount = frac.Of(1)
	return map[string]flawed{
		"all words": {uniform(2), api.OK}, "more words": {uniform(api.MaxWords), api.OK}, "fewer words": {uniform(1), api.ErrArg}, "no words": {uniform(0), api.ErrArg},
		"nothing": {api.Language{}, api.ErrArg}, "too many n-grams": {long, api.ErrLong}, "a wrong order": {wrong, api.ErrArg}, "an amount": {unsmoothed, api.ErrArg},
	}
}

// TestLatticeErrors checks that all functions refuse lattices that are not valid.
func TestLatticeErrors(t *testing.T) {
	for _, c := range flaws(t) {
		if c.want == api.OK {
			continue
		}
		a := arguments{l: example(t), m: uniform(api.MaxWords), n: 1, term: []int{1}}
		c.make(&a.l)
		for _, x := range a.languageResults() {
			if x.e != c.want || !x.isZero() {
				t.Errorf("%s, %s: error %d", x.what, c.what, x.e)
			}
		}
		if n, e := lattice.Count(a.l); e != c.want || !isZero(n) {
			t.Errorf("Count, %s: error %d", c.what, e)
		}
		// What exceeds a bound comes before what is not valid.
		a.m.Table.List = make([]api.Gram, api.MaxGrams+1)
		for _, x := range a.languageResults() {
			if x.e != api.ErrLong || !x.isZero() {
				t.Errorf("%s, %s and too many n-grams: error %d", x.what, c.what, x.e)
			}
		}
	}
}

// TestLanguageErrors checks that all functions refuse language models that are not valid, or do not have the words of the arcs, also if there are no paths.
func TestLanguageErrors(t *testing.T) {
	for what, c := range languageFlaws() {
		for _, l := range []api.Lattice{latticeOf(t, 2, "0 1 2 0 1/2", "1 2 1 0 1/2"), latticeOf(t, 2, "0 1 2 0 1/2")} {
			none := len(l.Arcs) == 1
			a := arguments{l: l, m: c.m, path: []int{0, 1}, n: 1, term: []int{1}}
			for _, x := range a.languageResults() {
				want := c.want
				switch {
				case want != api.OK || !none:
				case x.what == "Weight" || x.what == "Wrong":
					want = api.ErrArg // there is no such path
				case x.what != "Total" && x.what != "Routes" && x.what != "Beam":
					want = api.ErrNone
				}
				if x.e != want || want != api.OK && !x.isZero() {
					t.Errorf("%s, %s in %s: error %d, not %d", x.what, what, show(l), x.e, want)
				}
			}
		}
	}
	// The words of arcs on no path count too.
	a := arguments{l: latticeOf(t, 2, "0 1 2 0 1", "0 2 1 0 1"), m: uniform(1), path: []int{1}, term: []int{1}}
	for _, x := range a.languageResults() {
		if x.e != api.ErrArg || !x.isZero() {
			t.Errorf("%s: error %d", x.what, x.e)
		}
	}
}

// TestAnyArguments checks that functions return for all arguments, with zero values beside errors (P0.1, rules R2 and R5).
func TestAnyArguments(t *testing.T) {
	r := rand.New(rand.NewSource(23))
	edges := edgeInts()
	edge := func() int { return edges[r.Intn(len(edges))] }
	refused := map[string]map[api.Errno]bool{}
	for range 3000 {
		a := randomArguments(t, r).clone()
		for _, spoil := range a.spoilers(t, r, edge) {
			if r.Intn(8) == 0 {
				spoil()
			}
		}
		for _, x := range a.results() {
			if x.e != api.OK && !x.isZero() {
				t.Errorf("%s of %v: %v and error %d", x.what, a, x.memory, x.e)
			}
			if refused[x.what] == nil {
				refused[x.what] = map[api.Errno]bool{}
			}
			refused[x.what][x.e] = true
		}
	}
	for what, errors := range refused {
		mayLack := slices.Contains([]string{"Best", "Parts", "Frames", "Cuts", "Find", "Has", "Safest"}, what)
		for _, e := range []api.Errno{api.OK, api.ErrArg, api.ErrLong, api.ErrNone} {
			if errors[e] != (e != api.ErrNone || mayLack) {
				t.Errorf("%s, error %d: %v", what, e, errors[e])
			}
		}
		if len(errors) > 4 {
			t.Errorf("%s: %v", what, errors)
		}
	}
}

// spoilers returns functions that make arguments wrong.
func (a *arguments) spoilers(t *testing.T, r *rand.Rand, edge func() int) []func() {
	wrong := flaws(t)
	return []func(){
		func() { a.l = example(t); wrong[r.Intn(len(wrong))].make(&a.l) },
		func() {
			a.l.Arcs = []api.Arc{{From: edge(), To: edge(), Word: edge(), Variant: edge(), Weight: frac.Of(edge())}}
		},
		func() { a.l.Frames = edge() },
		func() { a.m = api.Language{Table: api.Table{Order: edge(), Words: edge()}, By: api.Typed} },
		func() { a.m.Table.List = make([]api.Gram, api.MaxGrams+r.Intn(2)) },
		func() { a.path = []int{edge(), edge()} },
		func() { a.n = edge() },
		func() { a.ratio = api.Frac{Neg: r.Intn(2) == 0, N: []uint32{5}, D: []uint32{3}} },
		func() { a.term = []int{edge(), edge()} },
		func() { a.term = make([]int, 21) },
		func() { a.o = append(a.o, edge()) },
		func() { a.o = make([]int, 1001) },
		func() { a.x = api.Task{} },
	}
}
