// Tests of P0.1 and the rules R2 to R8.

package decode_test

import (
	"math/rand"
	"slices"
	"testing"

	"earshot/api"
	"earshot/decode"
	"earshot/frac"
)

// arguments are arguments of all functions.
type arguments struct {
	x      api.Task
	b      api.Beam
	o      []int
	trace  []api.Point
	weight api.Frac
	proof  api.Proof
}

// visit calls functions for all numbers and lists of integers of arguments.
func (a *arguments) visit(number func(x *api.Frac), list func(l *[]int)) {
	row := func(l []api.Frac) {
		for i := range l {
			number(&l[i])
		}
	}
	for _, m := range a.x.Phones {
		row(m.Start)
		row(m.End)
		for _, l := range slices.Concat(m.Move, m.Say) {
			row(l)
		}
	}
	for _, word := range a.x.Words {
		for k := range word {
			number(&word[k].Weight)
			list(&word[k].Phones)
		}
	}
	for i := range a.x.Language.Table.List {
		list(&a.x.Language.Table.List[i].Words)
	}
	row(a.x.Language.Mix)
	for _, x := range []*api.Frac{&a.x.Language.Amount, &a.b.Ratio, &a.weight} {
		number(x)
	}
	for _, values := range a.proof.Frames {
		for i := range values {
			number(&values[i].Left)
			list(&values[i].History)
		}
	}
	list(&a.o)
}

// clone returns a copy of arguments and of their memory.
func (a arguments) clone() arguments {
	copyRows := func(rows [][]api.Frac) [][]api.Frac {
		rows = slices.Clone(rows)
		for i, l := range rows {
			rows[i] = slices.Clone(l)
		}
		return rows
	}
	a.x.Phones = slices.Clone(a.x.Phones)
	for i, m := range a.x.Phones {
		a.x.Phones[i] = api.Model{Start: slices.Clone(m.Start), Move: copyRows(m.Move), End: slices.Clone(m.End), Say: copyRows(m.Say)}
	}
	a.x.Words = slices.Clone(a.x.Words)
	for i, word := range a.x.Words {
		a.x.Words[i] = slices.Clone(word)
	}
	a.x.Language.Table.List, a.x.Language.Mix = slices.Clone(a.x.Language.Table.List), slices.Clone(a.x.Language.Mix)
	a.proof, a.trace = copyProof(a.proof), slices.Clone(a.trace)
	a.visit(func(x *api.Frac) { *x = copyNumber(*x) }, func(l *[]int) { *l = slices.Clone(*l) })
	return a
}

// memory is the memory of arguments or of a result.
type memory struct {
	numbers []api.Frac
	lists   [][]int
	points  []api.Point
}

// memory returns all lists and numbers of arguments.
func (a arguments) memory() memory {
	m := memory{points: a.trace}
	a.visit(func(x *api.Frac) { m.numbers = append(m.numbers, *x) }, func(l *[]int) { m.lists = append(m.lists, *l) })
	return m
}

// clone returns a copy.
func (m memory) clone() memory {
	c := memory{points: slices.Clone(m.points)}
	for _, a := range m.numbers {
		c.numbers = append(c.numbers, copyNumber(a))
	}
	for _, list := range m.lists {
		c.lists = append(c.lists, slices.Clone(list))
	}
	return c
}

// equal reports whether the same numbers, with the same digits, are in two memories.
func (m memory) equal(n memory) bool {
	return slices.EqualFunc(m.numbers, n.numbers, func(a, b api.Frac) bool {
		return a.Neg == b.Neg && slices.Equal(a.N, b.N) && slices.Equal(a.D, b.D)
	}) && slices.EqualFunc(m.lists, n.lists, slices.Equal) && slices.Equal(m.points, n.points)
}

// parts returns each list and each number alone.
func (m memory) parts() []memory {
	list := []memory{{points: m.points}}
	for i := range m.numbers {
		list = append(list, memory{numbers: m.numbers[i : i+1]})
	}
	for i := range m.lists {
		list = append(list, memory{lists: m.lists[i : i+1]})
	}
	return list
}

// spoil overwrites a memory, also what is behind the ends of lists.
func (m memory) spoil() {
	for _, a := range m.numbers {
		for _, digits := range [][]uint32{a.N[:cap(a.N)], a.D[:cap(a.D)]} {
			for i := range digits {
				digits[i] = 0xBAD
			}
		}
	}
	for _, list := range m.lists {
		for i := range list[:cap(list)] {
			list[:cap(list)][i] = -99
		}
	}
	for i := range m.points[:cap(m.points)] {
		m.points[:cap(m.points)][i] = api.Point{Word: -99}
	}
}

// result is what a function returns, and its error. Integers and bools are a list of their own, without those that are 0.
type result struct {
	what string
	memory
	e api.Errno
}

func sameResults(a, b result) bool { return a.what == b.what && a.equal(b.memory) && a.e == b.e }

// isZero reports whether there are only zero values.
func (a result) isZero() bool {
	return !slices.ContainsFunc(a.numbers, func(x api.Frac) bool { return !isZero(x) }) && len(slices.Concat(a.lists...)) == 0 && len(a.points) == 0
}

// reportResult returns a result that is a report.
func reportResult(what string, r api.Report, e api.Errno) result {
	x := result{what, memory{[]api.Frac{r.Weight, r.Bound}, [][]int{r.Words}, r.Trace}, e}
	for _, b := range []bool{r.Found, r.Proved, r.Dropped > 0} {
		if b {
			x.lists = append(x.lists, []int{1, r.Dropped})
		}
	}
	return x
}

// proofResult returns a result that is a proof.
func proofResult(p api.Proof, e api.Errno) result {
	x := result{what: "Prove", e: e}
	for i, values := range p.Frames {
		for _, v := range values {
			x.numbers = append(x.numbers, v.Left)
			x.lists = append(x.lists, v.History, []int{i, v.Word, v.Variant, v.Phone, v.State})
		}
	}
	return x
}

// results returns the results of all functions.
func (a arguments) results() []result {
	w, e := decode.Weight(a.x, a.o, a.trace)
	list := []result{{what: "Check", e: decode.Check(a.x)}, {"Words", memory{lists: [][]int{decode.Words(a.trace)}}, api.OK}, {"Weight", memory{numbers: []api.Frac{w}}, e}}
	r, e := decode.Decode(a.x, a.b, a.o)
	list = append(list, reportResult("Decode", r, e))
	w, e = decode.Total(a.x, a.o)
	list = append(list, result{"Total", memory{numbers: []api.Frac{w}}, e})
	p, e := decode.Prove(a.x, a.o)
	list = append(list, proofResult(p, e))
	holds := result{what: "Verify"}
	if decode.Verify(a.x, a.o, a.weight, a.proof) {
		holds.lists = [][]int{{1}}
	}
	d, e := decode.New(a.x, a.b)
	list = append(list, holds, result{what: "New", e: e})
	if e == api.OK {
		list = append(list, result{what: "Feed", e: d.Feed(a.o...)})
		r, e := d.Report()
		list = append(list, reportResult("Report", r, e), result{"Sure", memory{lists: [][]int{d.Sure(), {d.Frames()}}}, api.OK})
	}
	return list
}

// randomArguments returns arguments that most functions take.
func randomArguments(t *testing.T, r *rand.Rand) arguments {
	t.Helper()
	a := arguments{x: randomTask(t, r, small), b: randomBeam(r)}
	a.o = randomRecording(r, a.x, r.Intn(4))
	if list := traces(a.x, len(a.o)); len(list) > 0 {
		a.trace = list[r.Intn(len(list))]
	}
	if report := decoded(t, a.x, whole(), a.o); report.Found && r.Intn(2) == 0 {
		a.trace = report.Trace
	}
	a.weight, a.proof = fraction(r, r.Intn(3), 2), proved(t, a.x, a.o)
	return a
}

// TestMemory checks that arguments stay as they are, and that results share no memory with arguments, nor with each other (rule R4); equal calls have equal results afterwards (rule R8), and all numbers are canonical (rule R6).
func TestMemory(t *testing.T) {
	r := rand.New(rand.NewSource(20))
	for range 200 {
		given := randomArguments(t, r)
		a := given.clone()
		results := a.results()
		var want []result
		for _, x := range results {
			want = append(want, result{x.what, x.memory.clone(), x.e})
		}
		if !a.memory().equal(given.memory()) {
			t.Fatalf("%v has become %v", given, a)
		}
		a.memory().spoil()
		if !slices.EqualFunc(results, want, sameResults) {
			t.Fatalf("results for %v share memory with arguments", given)
		}
		if again := given.results(); !slices.EqualFunc(again, want, sameResults) {
			t.Fatalf("results for %v are different", given)
		}
		for _, x := range results {
			expectOwnMemory(t, x)
		}
	}
}

// expectOwnMemory checks that the numbers of a result are canonical, and that no two of its parts share memory. It spoils the result.
func expectOwnMemory(t *testing.T, x result) {
	t.Helper()
	for _, a := range x.numbers {
		if !isCanonical(a) {
			t.Errorf("%s: %v is not canonical", x.what, a)
		}
	}
	parts := x.parts()
	for i, part := range parts {
		var rest, want []memory
		for _, other := range parts[i+1:] {
			rest, want = append(rest, other), append(want, other.clone())
		}
		part.spoil()
		if !slices.EqualFunc(rest, want, memory.equal) {
			t.Fatalf("parts of %s share memory", x.what)
		}
	}
}

// TestDecoderMemory checks that a decoder keeps no argument, and that its results do not share its memory (rule R4).
func TestDecoderMemory(t *testing.T) {
	r := rand.New(rand.NewSource(21))
	for range 200 {
		given := randomArguments(t, r)
		a := given.clone()
		d := made(t, a.x, a.b)
		a.memory().spoil()
		for from := range len(given.o) + 1 {
			want := searched(given.x, given.b, given.o[:from])
			for range 2 {
				report, _ := d.Report()
				sure := d.Sure()
				if showReport(report) != want.report() || !slices.Equal(sure, want.sure()) {
					t.Fatalf("%v of %v: %s, not %s", from, given, showReport(report), want.report())
				}
				reportResult("Report", report, api.OK).spoil()
				memory{lists: [][]int{sure}}.spoil()
			}
			if from < len(given.o) {
				o := slices.Clone(given.o[from : from+1])
				if e := d.Feed(o...); e != api.OK {
					t.Fatalf("Feed: error %d", e)
				}
				memory{lists: [][]int{o}}.spoil()
			}
		}
	}
}

// TestNilAndEmpty checks that nil and empty lists are the same value (rule R3).
func TestNilAndEmpty(t *testing.T) {
	a := arguments{x: simple(t), b: whole()}
	b := a.clone()
	b.x.Language.Table.List, b.x.Language.Mix = []api.Gram{}, []api.Frac{}
	b.o, b.trace, b.proof.Frames = []int{}, []api.Point{}, [][]api.Value{}
	if !slices.EqualFunc(a.results(), b.results(), sameResults) {
		t.Errorf("%v and %v", a, b)
	}
	nothing := arguments{x: api.Task{Phones: []api.Model{}, Words: [][]api.Variant{}}, o: []int{}, trace: []api.Point{}}
	if !slices.EqualFunc(arguments{}.results(), nothing.results(), sameResults) {
		t.Error("nothing")
	}
	p := proved(t, simple(t), []int{0})
	for _, history := range [][]int{nil, {}} {
		p.Frames[0][0].History = history
		if !decode.Verify(simple(t), []int{0}, f(t, "1/24"), p) {
			t.Errorf("the history %v", history)
		}
	}
	x := taskOf(t, []api.Model{single(t, "1/2", "1/2", "1 0")}, []int{1})
	for _, values := range [][]api.Value{nil, {}} {
		if !decode.Verify(x, []int{1}, api.Frac{}, api.Proof{Frames: [][]api.Value{values}}) {
			t.Errorf("the values %v", values)
		}
	}
}

// TestAnyNumbers checks that numbers which are not canonical count by their values (rule R5).
func TestAnyNumbers(t *testing.T) {
	r := rand.New(rand.NewSource(22))
	for range 200 {
		a := randomArguments(t, r)
		b := a.clone()
		b.visit(func(x *api.Frac) { *x = disguised(r, *x) }, func(*[]int) {})
		if !slices.EqualFunc(a.results(), b.results(), sameResults) {
			t.Fatalf("results for %v and %v", a, b)
		}
	}
}

// TestAnyArguments checks that functions return for all arguments, with zero values beside errors (P0.1, rules R2 and R5).
func TestAnyArguments(t *testing.T) {
	r := rand.New(rand.NewSource(23))
	edges, wrong := edgeInts(), flaws(t)
	edge := func() int { return edges[r.Intn(len(edges))] }
	point := func() api.Point {
		return api.Point{New: r.Intn(2) == 0, Word: edge(), Variant: edge(), Phone: edge(), State: edge()}
	}
	refused := map[string]bool{}
	for range 2000 {
		a := randomArguments(t, r).clone()
		for _, spoil := range []func(){
			func() { a.x = fine(t); wrong[r.Intn(len(wrong))].make(&a.x) },
			func() {
				a.b = api.Beam{Width: edge(), Ratio: api.Frac{Neg: r.Intn(2) == 0, N: []uint32{5}, D: []uint32{3}}}
			},
			func() { a.o = append(a.o, edge()) },
			func() { a.o = make([]int, 1001) },
			func() { a.trace = []api.Point{point(), point()} },
			func() { a.weight = api.Frac{Neg: r.Intn(2) == 0, N: []uint32{1, 0}, D: []uint32{0}} },
			func() { a.proof = randomProof(r, edge) },
			func() { a.x.Language.Table.Order, a.x.Language.Table.Words = edge(), edge() },
		} {
			if r.Intn(5) == 0 {
				spoil()
			}
		}
		for _, x := range a.results() {
			if x.e != api.OK && !x.isZero() {
				t.Errorf("%s of %v: %v and error %d", x.what, a, x.memory, x.e)
			}
			if !slices.Contains([]api.Errno{api.OK, api.ErrArg, api.ErrLong}, x.e) {
				t.Errorf("%s of %v: error %d", x.what, a, x.e)
			}
			refused[x.what] = refused[x.what] || x.e != api.OK
		}
	}
	for _, what := range []string{"Check", "Weight", "Decode", "Total", "Prove", "New", "Feed"} {
		if !refused[what] {
			t.Errorf("%s was never refused", what)
		}
	}
}

// randomProof returns a proof with any numbers.
func randomProof(r *rand.Rand, edge func() int) api.Proof {
	var p api.Proof
	for range r.Intn(3) {
		var values []api.Value
		for range r.Intn(3) {
			values = append(values, api.Value{History: []int{edge(), edge()}[r.Intn(3):], Word: edge(), Variant: edge(), Phone: edge(), State: edge(), Left: frac.Of(edge())})
		}
		p.Frames = append(p.Frames, values)
	}
	return p
}
