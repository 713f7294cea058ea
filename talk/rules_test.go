// Tests of P0.1, of the errors that functions share, and of the rules R1 to R8.

package talk_test

import (
	"math"
	"math/rand"
	"slices"
	"testing"

	"earshot/api"
	"earshot/talk"
)

// TestMemoryOfFunctions checks that functions change no arguments, and that results share no memory with arguments, or with each other (rule R4).
func TestMemoryOfFunctions(t *testing.T) {
	r := rand.New(rand.NewSource(11))
	for range 50 {
		groups := [][][]int{randomGroup(r, 2, 2, 9), randomGroup(r, 1, 2, 9), randomGroup(r, 3, 2, 9)}
		given, limit := clone(groups), fraction(r, r.Intn(9), 2)
		limitGiven := clone(limit)
		gap, _ := talk.Gap(groups[0], groups[1])
		speakers, _ := talk.Cluster(groups, 3, limit)
		if !same(groups, given) || !same(limit, limitGiven) {
			t.Fatalf("%v and %v have become %v and %v", given, limitGiven, groups, limit)
		}
		wantGap, wantSpeakers := clone(gap), clone(speakers)
		spoil(groups)
		spoil(limit)
		if !same(gap, wantGap) || !same(speakers, wantSpeakers) {
			t.Fatal("results share memory with arguments")
		}
		spoil(gap)
		spoil(speakers)
		gap, _ = talk.Gap(given[0], given[1])
		speakers, _ = talk.Cluster(given, 3, limitGiven)
		if !same(gap, wantGap) || !same(speakers, wantSpeakers) {
			t.Fatal("results are different when they are asked for again")
		}
	}
}

// TestMemoryOfLearners checks that a learner keeps no argument, and gives away nothing of its own.
func TestMemoryOfLearners(t *testing.T) {
	r := rand.New(rand.NewSource(12))
	for range 100 {
		table := counted(t, 1+r.Intn(4), 3, randomSentence(r, 3), randomSentence(r, 3))
		given := clone(table)
		l, other := learner(t, table), learner(t, table)
		var list []correction
		for range 5 {
			c := correction{randomSentence(r, 3), 1 + r.Intn(9)}
			list = append(list, correction{slices.Clone(c.sentence), c.times})
			correct(t, l, c)
			spoil(c.sentence)
			learnt, e := l.Table()
			expect(t, "Table", e)
			spoil(learnt)
		}
		if !same(table, given) {
			t.Fatalf("%v has become %v", given, table)
		}
		spoil(table)
		expectLearned(t, other, given, 0)
		expectLearned(t, l, learned(t, given, list), 5)
		for range 2 {
			expect(t, "Undo", l.Undo())
			learnt, _ := l.Table()
			spoil(learnt)
		}
		expectLearned(t, l, learned(t, given, list[:3]), 3)
	}
}

// TestMemoryOfDialogues checks that a dialogue keeps no argument, and gives away nothing of its own.
func TestMemoryOfDialogues(t *testing.T) {
	r := rand.New(rand.NewSource(13))
	for range 1000 {
		p := randomPlan(r)
		p.Patience = 100
		given := clone(p)
		d, other, want := dialogue(t, p), dialogue(t, p), standingOf(given)
		if !same(p, given) {
			t.Fatalf("%v has become %v", given, p)
		}
		spoil(p)
		for at := 0; at < 60 && !want.done && !want.left; {
			e := randomEvent(r, at)
			at = e.At
			want.hear(clone(e))
			expect(t, "Hear", d.Hear(e))
			spoil(e.Weight)
			s, _ := d.Stand()
			spoil(s)
			expectStanding(t, d, want)
			first, _ := d.Stand()
			for i := range first.Slots {
				spoil(first.Slots[i].Refused)
				if rest := first.Slots[i+1:]; !same(rest, want.stand().Slots[i+1:]) {
					t.Fatal("lists of refused values share memory")
				}
			}
		}
		expectStanding(t, other, standingOf(given))
	}
}

// TestMemoryOfSessions checks that a session keeps no argument, and gives away nothing of its own, and that it is independent of others.
func TestMemoryOfSessions(t *testing.T) {
	r := rand.New(rand.NewSource(14))
	for range 60 {
		s, x := randomSetup(t, r), randomSpeech(r, 80)
		given := clone(s)
		want := listen(t, given, x, true)
		expect(t, "Check", talk.Check(s))
		replayed, standing := replay(t, s, slices.Clone(x))
		a, other := start(t, s), start(t, s)
		if !same(s, given) {
			t.Fatalf("%s has become %s", brief(given), brief(s))
		}
		spoil(s)
		if !same(replayed, want.turns) || !same(standing, want.dialogue.stand()) {
			t.Fatal("results of Replay share memory with the setup")
		}
		expectApart(t, replayed, want.turns)
		var turns []api.Turn
		for piece := range slices.Chunk(x, 1+r.Intn(30)) {
			piece = slices.Clone(piece)
			ended, e := a.Feed(piece...)
			expect(t, "Feed", e)
			spoil(piece)
			turns = append(turns, clone(ended)...)
			spoil(ended)
			spoil(a.Turns())
			if speakers, e := a.Speakers(); e == api.OK {
				spoil(speakers)
			}
			now, e := a.Stand()
			expect(t, "Stand", e)
			spoil(now)
			_, e = other.Feed(randomSpeech(r, 9)...)
			expect(t, "Feed", e)
		}
		ended, e := a.Close()
		expect(t, "Close", e)
		turns = append(turns, clone(ended)...)
		spoil(ended)
		if !same(turns, want.turns) {
			t.Fatalf("turns: %s, not %s", brief(turns), brief(want.turns))
		}
		expectSession(t, a, given, want)
		expectApart(t, a.Turns(), want.turns)
	}
}

// expectApart checks that turns share no memory with each other, which are spoiled thereby.
func expectApart(t *testing.T, turns, want []api.Turn) {
	t.Helper()
	for i := range turns {
		spoil(turns[i].Words)
		for j := range turns[i].Weights {
			if !same(turns[i].Weights[j:], want[i].Weights[j:]) {
				t.Fatal("weights share memory")
			}
			spoil(turns[i].Weights[j])
		}
		if !same(turns[i+1:], want[i+1:]) {
			t.Fatal("turns share memory")
		}
	}
}

// TestNilAndEmpty checks that nil and empty lists are the same (rule R3).
func TestNilAndEmpty(t *testing.T) {
	s := simple(t)
	s.Task.Language.Table.List, s.Task.Language.Mix = []api.Gram{}, []api.Frac{}
	s.Limit = api.Frac{N: []uint32{}, D: []uint32{}}
	turns, standing := replay(t, s, []int{})
	if !isEmpty(turns) || !same(standing, standingOf(s.Plan).stand()) {
		t.Errorf("%v and %v", turns, standing)
	}
	a := start(t, s)
	for _, x := range [][]int{nil, {}} {
		turns, e := a.Feed(x...)
		if e != api.OK || !isEmpty(turns) {
			t.Errorf("%v and error %d", turns, e)
		}
	}
	l := learner(t, api.Table{Order: 1, Words: 1, List: []api.Gram{}})
	correct(t, l, correction{nil, 1}, correction{[]int{}, 1})
	expectLearned(t, l, api.Table{Order: 1, Words: 1, List: []api.Gram{{Words: []int{0}, N: 2}}}, 2)
}

// TestNumbers checks that weights count by their values, however they are written (rule R6).
func TestNumbers(t *testing.T) {
	written := func(n, d uint32) []api.Frac {
		return []api.Frac{{N: []uint32{n}, D: []uint32{d}}, {N: []uint32{3 * n, 0}, D: []uint32{3 * d, 0, 0}}, {N: []uint32{0, n}, D: []uint32{0, d}}}
	}
	for _, least := range written(1, 4) {
		for _, weight := range written(1, 4) {
			p := color(t)
			p.Slots[0].Least, p.Slots[0].Sure = least, weight
			d := dialogue(t, p)
			expect(t, "Hear", d.Hear(api.Event{Kind: api.EventValue, Value: "red", Weight: weight}))
			if got := shown(t, d); got != "grounded red; 0 failed, 1 cut, done" {
				t.Error(got)
			}
		}
		if speakers, e := talk.Cluster([][][]int{{{0}}, {{1}}}, 2, least); e != api.OK || !slices.Equal(speakers, []int{0, 1}) {
			t.Errorf("%v and error %d", speakers, e)
		}
	}
	for _, limit := range written(1, 2) {
		if speakers, e := talk.Cluster([][][]int{{{0}}, {{1}}}, 2, limit); e != api.OK || !slices.Equal(speakers, []int{0, 0}) {
			t.Errorf("%v and error %d", speakers, e)
		}
	}
}

// TestAnyArguments checks that functions return for all arguments, with zero values beside errors (P0.1, rules R2 and R5).
func TestAnyArguments(t *testing.T) {
	r := rand.New(rand.NewSource(15))
	edges := []int{math.MinInt, -1 << 40, -1, 0, 1, 2, 40, 1 << 21, 1 << 40, math.MaxInt - 1, math.MaxInt}
	edge := func() int { return edges[r.Intn(len(edges))] }
	texts := []string{"", " ", "yes", "no", "red", "\xff\x00", "color"}
	some := func() string { return texts[r.Intn(len(texts))] }
	number := func() api.Frac {
		return api.Frac{Neg: r.Intn(4) == 0, N: []uint32{uint32(r.Intn(3)), uint32(r.Intn(2))}, D: []uint32{uint32(r.Intn(4))}}
	}
	for range 3000 {
		group := [][]int{{edge()}, {edge(), edge()}}[:r.Intn(3)]
		gap, e := talk.Gap(group, [][]int{{edge()}})
		expectZero(t, "Gap", gap, e)
		speakers, e := talk.Cluster([][][]int{group, {{edge()}}}, edge(), number())
		expectZero(t, "Cluster", speakers, e)
		l, e := talk.Learn(api.Table{Order: edge(), Words: edge(), List: []api.Gram{{Words: []int{edge()}, N: edge()}}})
		expectZero(t, "Learn", l == nil, boolError(e))
		if l == nil {
			l = learner(t, often(9))
		}
		l.Correct([]int{edge(), 1}, edge())
		l.Undo()
		p := color(t)
		if r.Intn(2) == 0 {
			p = api.Plan{Slots: []api.Slot{{Name: some(), Values: []string{some(), some()}, Least: number(), Sure: number()}}, Patience: edge(), Prompt: edge(), Need: edge()}
		}
		d, e := talk.Talk(p)
		expectZero(t, "Talk", d == nil, boolError(e))
		for range 5 {
			if e := d.Hear(api.Event{Kind: api.EventKind(edge()), Value: some(), Weight: number(), At: edge()}); d == nil && e != api.ErrNil {
				t.Errorf("Hear: error %d", e)
			}
			q, e := d.Ask()
			expectZero(t, "Ask", q, e)
			s, e := d.Stand()
			expectZero(t, "Stand", s, e)
		}
	}
	anySetups(t, r, edge, number)
}

// boolError is for objects, which are nil just if there is an error: it is an error if there is none.
func boolError(e api.Errno) api.Errno {
	if e == api.OK {
		return api.ErrArg
	}
	return api.OK
}

// expectZero checks that a result is the zero value if there is an error.
func expectZero[T any](t *testing.T, what string, x T, e api.Errno) {
	t.Helper()
	if e != api.OK && !isEmpty(x) {
		t.Errorf("%s: %v and error %d", what, x, e)
	}
}

// anySetups checks setups with one or several fields that may be wrong.
func anySetups(t *testing.T, r *rand.Rand, edge func() int, number func() api.Frac) {
	t.Helper()
	list := flaws()
	seen := map[api.Errno]int{}
	for range 1500 {
		s := simple(t)
		for _, change := range []func(){
			func() { s.Rate = edge() },
			func() {
				s.Gate = api.Gate{Block: edge(), High: edge(), Low: edge(), Rise: edge(), Fall: edge(), Lead: edge(), Longest: edge()}
			},
			func() { s.Recipe.Step, s.Recipe.Size = edge(), edge() },
			func() { s.Recipe.Edges = []int{edge(), edge()} },
			func() { s.Recipe.Cepstra, s.Recipe.Points = edge(), edge() },
			func() { s.Book = [][]int{{edge()}, {edge()}} },
			func() { s.Most = edge() },
			func() { s.Limit = number() },
			func() { s.Plan.Slots[0].Least = number() },
			func() { s.Task.Words[0][0].Weight = number() },
			func() { list[r.Intn(len(list))].change(&s) },
		} {
			if r.Intn(12) == 0 {
				change()
			}
		}
		e := talk.Check(s)
		seen[e]++
		a, e2 := talk.Start(s)
		if e != e2 || (a == nil) != (e != api.OK) {
			t.Errorf("Check: error %d, Start: error %d", e, e2)
		}
		turns, standing, e := talk.Replay(s, api.Recording{Rate: s.Rate, Samples: sound(0, 5, 3, 0, 1)})
		if e != e2 || e != api.OK && (!isEmpty(turns) || !isEmpty(standing)) {
			t.Errorf("Start: error %d, Replay: error %d", e2, e)
		}
		turns, e = a.Feed(edge(), edge())
		expectZero(t, "Feed", turns, e)
		turns, e = a.Close()
		expectZero(t, "Close", turns, e)
	}
	if len(seen) != 3 || seen[api.OK] < 100 || seen[api.ErrArg] < 100 || seen[api.ErrLong] < 10 {
		t.Errorf("errors: %v", seen)
	}
}
