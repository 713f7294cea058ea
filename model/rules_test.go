// Tests of P0.1 and the rules R2 to R8.

package model_test

import (
	"math"
	"math/rand"
	"slices"
	"testing"

	"earshot/api"
	"earshot/frac"
	"earshot/model"
)

// arguments are arguments of all functions.
type arguments struct {
	m, other api.Model
	data     [][]int
	path     []int
	weights  []api.Frac
	counts   api.Counts
	n, d     int
}

// clone returns a copy of arguments and of their memory.
func (a arguments) clone() arguments {
	a.m, a.other = copyModel(a.m), copyModel(a.other)
	a.data = slices.Clone(a.data)
	for i, o := range a.data {
		a.data[i] = slices.Clone(o)
	}
	a.path, a.weights = slices.Clone(a.path), copyRow(a.weights)
	used, unused := a.counts.Used, a.counts.Unused
	a.counts = countsOf(copyModel(modelOf(a.counts)))
	a.counts.Used, a.counts.Unused = used, unused
	return a
}

// rows returns all rows of arguments.
func (a arguments) rows() [][]api.Frac {
	return slices.Concat(rowsOf(a.m), rowsOf(a.other), [][]api.Frac{a.weights}, rowsOf(modelOf(a.counts)))
}

// spoil overwrites the memory of arguments.
func (a arguments) spoil() {
	for _, list := range append(a.data, a.path) {
		for i := range list {
			list[i] = -99
		}
	}
	for _, row := range a.rows() {
		spoilRow(row)
	}
}

// spoilRow overwrites the memory of a row, also what is behind its end.
func spoilRow(row []api.Frac) {
	for _, a := range row {
		spoilNumber(a)
	}
	for i := range row {
		row[i] = api.Frac{Neg: true, N: []uint32{99}}
	}
	_ = append(row, api.Frac{Neg: true, N: []uint32{98}})
}

// spoilNumber overwrites the digits of a number.
func spoilNumber(a api.Frac) {
	for _, digits := range [][]uint32{a.N[:cap(a.N)], a.D[:cap(a.D)]} {
		for i := range digits {
			digits[i] = 0xBAD
		}
	}
}

// equal reports whether the memory of two arguments has the same elements.
func (a arguments) equal(b arguments) bool {
	return sameRows(a.rows(), b.rows()) && slices.EqualFunc(a.data, b.data, slices.Equal) && slices.Equal(a.path, b.path)
}

// result is what a function returns: its rows of weights, other numbers, and its error.
type result struct {
	what    string
	rows    [][]api.Frac
	numbers []int
	e       api.Errno
}

// equal reports whether two results are the same.
func (a result) equal(b result) bool {
	return a.e == b.e && sameRows(a.rows, b.rows) && slices.Equal(a.numbers, b.numbers)
}

// isZero reports whether there are only zero values.
func (a result) isZero() bool {
	ones := slices.ContainsFunc(a.numbers, func(n int) bool { return n != 0 })
	return !ones && !slices.ContainsFunc(slices.Concat(a.rows...), func(x api.Frac) bool { return !isZero(x) })
}

// isCanonical reports whether all numbers are.
func (a result) isCanonical() bool {
	return !slices.ContainsFunc(slices.Concat(a.rows...), func(x api.Frac) bool { return !isCanonical(x) })
}

// clone returns a copy of a result and of its memory.
func (a result) clone() result {
	a.rows, a.numbers = copyRows(a.rows), slices.Clone(a.numbers)
	return a
}

// results returns the results of all functions.
func (a arguments) results() []result {
	var list []result
	rows := func(what string, rows [][]api.Frac, e api.Errno) { list = append(list, result{what, rows, nil, e}) }
	number := func(what string, x api.Frac, numbers []int, e api.Errno) {
		list = append(list, result{what, [][]api.Frac{{x}}, numbers, e})
	}
	o := slices.Concat(a.data[:min(1, len(a.data))]...)
	forward, e := model.Forward(a.m, o)
	rows("Forward", forward, e)
	backward, e := model.Backward(a.m, o)
	rows("Backward", backward, e)
	x, e := model.Likelihood(a.m, o)
	number("Likelihood", x, nil, e)
	x, e = model.Weight(a.m, o, a.path)
	number("Weight", x, nil, e)
	path, x, e := model.Best(a.m, o)
	number("Best", x, path, e)
	posterior, e := model.Posterior(a.m, o)
	rows("Posterior", posterior, e)
	c, e := model.Count(a.m, a.data...)
	list = append(list, result{"Count", rowsOf(modelOf(c)), []int{c.Used, c.Unused}, e})
	c, x, e = model.Few(a.m, o, a.n)
	list = append(list, result{"Few", append(rowsOf(modelOf(c)), []api.Frac{x}), []int{c.Used, c.Unused}, e})
	return slices.Concat(list, a.spans(), a.models())
}

// spans returns the results of the functions that return no weights.
func (a arguments) spans() []result {
	var numbers []int
	for _, span := range model.Spans(a.path) {
		numbers = append(numbers, span.State, span.From, span.To)
	}
	equal := result{what: "Equal"}
	if model.Equal(a.m, a.other) {
		equal.numbers = []int{1}
	}
	return []result{{what: "Spans", numbers: numbers}, {what: "Check", e: model.Check(a.m)}, equal}
}

// models returns the results of the functions that return models.
func (a arguments) models() []result {
	var list []result
	add := func(what string, m api.Model, e api.Errno) { list = append(list, result{what, rowsOf(m), nil, e}) }
	m, e := model.Reestimate(a.m, a.counts)
	add("Reestimate", m, e)
	m, e = model.Train(a.m, a.n, a.d, a.data...)
	add("Train", m, e)
	m, e = model.Train(a.m, 0, a.d, a.data...)
	add("Train in no rounds", m, e)
	m, e = model.Coarsen(a.m, a.d)
	add("Coarsen", m, e)
	m, e = model.Left(a.n, a.d)
	add("Left", m, e)
	m, e = model.Join(a.m, a.other)
	add("Join", m, e)
	m, e = model.Join(a.m)
	add("Join of one model", m, e)
	m, e = model.Join(a.m, a.m)
	add("Join of equal models", m, e)
	m, e = model.Mix(a.weights, a.m, a.other)
	add("Mix", m, e)
	m, e = model.Mix(a.weights, a.m, a.m)
	add("Mix of equal models", m, e)
	return list
}

// randomArguments returns arguments that most functions take.
func randomArguments(r *rand.Rand, zeros int) arguments {
	states, symbols := 1+r.Intn(3), 1+r.Intn(3)
	a := arguments{
		m:       randomModel(r, states, symbols, zeros),
		other:   randomModel(r, 1+r.Intn(3), symbols, zeros),
		weights: randomDistribution(r, 2, 2),
		counts:  randomCounts(r, states, symbols),
		n:       1 + r.Intn(2),
		d:       1 + r.Intn(60),
	}
	for range 1 + r.Intn(3) {
		a.data = append(a.data, randomRecording(r, r.Intn(4), symbols))
	}
	a.path = randomRecording(r, len(a.data[0]), states)
	return a
}

// TestMemory checks that arguments stay as they are, and that results share no memory with arguments, nor with each other (rule R4); equal calls have equal results afterwards (rule R8), and all numbers are canonical (rule R6).
func TestMemory(t *testing.T) {
	r := rand.New(rand.NewSource(34))
	for i := range 150 {
		given := randomArguments(r, []int{0, 4}[i%2])
		a := given.clone()
		results := a.results()
		var want []result
		for _, x := range results {
			want = append(want, x.clone())
		}
		if !a.equal(given) {
			t.Fatalf("%v has become %v", given, a)
		}
		a.spoil()
		for j, got := range results {
			if !got.equal(want[j]) {
				t.Fatalf("%s shares memory with its argument", got.what)
			}
			if !got.isCanonical() || got.e != api.OK && !got.isZero() {
				t.Errorf("%s of %v: %v and error %d", got.what, given, got.rows, got.e)
			}
			expectOwnMemory(t, got)
		}
		if !slices.EqualFunc(given.results(), want, result.equal) {
			t.Fatalf("results for %v are different", given)
		}
	}
}

// expectOwnMemory checks that no two rows and no two numbers of a result share memory. It spoils the result.
func expectOwnMemory(t *testing.T, got result) {
	t.Helper()
	for i, row := range got.rows {
		for j, x := range row {
			rest := copyRow(row[j+1:])
			spoilNumber(x)
			if !sameRows([][]api.Frac{rest}, [][]api.Frac{row[j+1:]}) {
				t.Fatalf("numbers of %s share memory", got.what)
			}
		}
		rest := copyRows(got.rows[i+1:])
		spoilRow(row)
		if !sameRows(rest, got.rows[i+1:]) {
			t.Fatalf("rows of %s share memory", got.what)
		}
	}
}

// emptied returns a model with empty lists in the place of nil.
func emptied(m api.Model) api.Model {
	fill := func(row []api.Frac) []api.Frac { return append([]api.Frac{}, row...) }
	n := api.Model{Start: fill(m.Start), Move: [][]api.Frac{}, End: fill(m.End), Say: [][]api.Frac{}}
	for _, row := range m.Move {
		n.Move = append(n.Move, fill(row))
	}
	for _, row := range m.Say {
		n.Say = append(n.Say, fill(row))
	}
	return n
}

// TestNilAndEmpty checks that nil and empty lists are the same value (rule R3).
func TestNilAndEmpty(t *testing.T) {
	some := func(m api.Model) arguments { return arguments{m: m, other: m, n: 1, d: 2} }
	for _, m := range []api.Model{one(t), left(t, 2, 2), {}, {Move: [][]api.Frac{nil}}, {Start: fs(t, "1"), Say: [][]api.Frac{nil}}} {
		for _, data := range [][][]int{{nil}, {nil, nil}, {nil, {0}}} {
			a, b := some(m), some(emptied(m))
			a.data, a.counts = data, countsOf(m)
			for _, o := range data {
				b.data = append(b.data, append([]int{}, o...))
			}
			b.path, b.weights, b.counts = []int{}, []api.Frac{}, countsOf(emptied(m))
			if !slices.EqualFunc(a.results(), b.results(), result.equal) {
				t.Errorf("results for %v and %v", m, data)
			}
		}
		a, b := some(m), some(m)
		b.data = [][]int{}
		if !slices.EqualFunc(a.results(), b.results(), result.equal) {
			t.Errorf("results for %v without recordings", m)
		}
	}
}

// TestAnyNumbers checks that numbers which are not canonical count by their values (rule R5): no denominator is 1, and no numerator 0.
func TestAnyNumbers(t *testing.T) {
	r := rand.New(rand.NewSource(35))
	for range 60 {
		a := randomArguments(r, 4)
		b := a.clone()
		for _, row := range b.rows() {
			for i, x := range row {
				row[i] = disguised(r, x)
			}
		}
		if !slices.EqualFunc(a.results(), b.results(), result.equal) {
			t.Fatalf("results for %v and %v", a, b)
		}
	}
}

// disguised returns a number that is not canonical and has the value of x.
func disguised(r *rand.Rand, x api.Frac) api.Frac {
	x = frac.Canon(x)
	if len(x.N) == 0 {
		return api.Frac{Neg: r.Intn(2) == 0, N: make([]uint32, r.Intn(3)), D: make([]uint32, r.Intn(3))}
	}
	if len(x.D) == 0 {
		x.D = make([]uint32, r.Intn(3))
	}
	if len(x.D) > 0 && slices.Max(x.D) > 0 {
		digits := slices.Repeat([]uint32{0}, r.Intn(2))
		x.N, x.D = append(digits, x.N...), append(slices.Clone(digits), x.D...)
	}
	return api.Frac{Neg: x.Neg, N: append(x.N, 0), D: append(x.D, 0)}
}

// TestAnyArguments checks that functions return for all arguments, with zero values beside errors (P0.1, rules R2 and R5).
func TestAnyArguments(t *testing.T) {
	r := rand.New(rand.NewSource(36))
	good := randomModel(r, 2, 2, 0)
	models := slices.Concat([]api.Model{{}, good, flat(41, 65), flat(1, 0)}, wrongLengths(good), wrongWeights(good))
	numbers := append(edgeInts(), 0, 1, 2, 3)
	for i, m := range models {
		for j, n := range numbers {
			a := arguments{m: m, other: models[(i+j)%len(models)], data: [][]int{{0, n}, {n}}, path: []int{n, 0}, weights: m.Start, counts: countsOf(models[(i*j)%len(models)]), n: n, d: numbers[(i+2*j)%len(numbers)]}
			for _, got := range a.results() {
				if got.e != api.OK && !got.isZero() || !got.isCanonical() {
					t.Errorf("%s of %v: %v, %v and error %d", got.what, a, got.rows, got.numbers, got.e)
				}
				if got.e != api.OK && got.e != api.ErrArg && got.e != api.ErrLong && got.e != api.ErrNone {
					t.Errorf("%s of %v: error %d", got.what, a, got.e)
				}
			}
		}
	}
	for _, path := range [][]int{{math.MinInt}, {math.MaxInt, math.MaxInt}, edgeInts()} {
		if spans := model.Spans(path); spans[0].From != 0 || spans[len(spans)-1].To != len(path) {
			t.Errorf("Spans of %v: %v", path, spans)
		}
	}
}
