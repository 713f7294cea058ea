// Tests of P10.2 (Learn and the learner) and P0.3 (what was learned can be taken back).

package talk_test

import (
	"math/rand"
	"slices"
	"testing"

	"earshot/api"
	"earshot/frac"
	"earshot/gram"
	"earshot/talk"
)

// learner returns a learner that begins with a table.
func learner(t *testing.T, table api.Table) *talk.Learner {
	t.Helper()
	l, e := talk.Learn(table)
	if e != api.OK || l == nil {
		t.Fatalf("Learn: error %d", e)
	}
	return l
}

// correction is a sentence and how often it counts.
type correction struct {
	sentence []int
	times    int
}

// correct adds corrections, which must not fail.
func correct(t *testing.T, l *talk.Learner, list ...correction) {
	t.Helper()
	for _, c := range list {
		expect(t, "Correct", l.Correct(c.sentence, c.times))
	}
}

// expectLearned checks the table and the number of corrections of a learner.
func expectLearned(t *testing.T, l *talk.Learner, want api.Table, count int) {
	t.Helper()
	got, e := l.Table()
	if e != api.OK || !same(got, want) || l.Count() != count {
		t.Fatalf("%d corrections, table %v and error %d; not %d and %v", l.Count(), got, e, count, want)
	}
}

// learned returns the table that is merged with that of each correction, as many times as it counts.
func learned(t *testing.T, table api.Table, list []correction) api.Table {
	t.Helper()
	for _, c := range list {
		added := counted(t, table.Order, table.Words, slices.Repeat([][]int{c.sentence}, c.times)...)
		var e api.Errno
		table, e = gram.Merge(table, added)
		expect(t, "Merge", e)
	}
	return table
}

// randomSentence returns a sentence of at most 5 words.
func randomSentence(r *rand.Rand, words int) []int {
	s := make([]int, r.Intn(6))
	for i := range s {
		s[i] = 1 + r.Intn(words)
	}
	return s
}

// TestLearnerExample checks the example of the chapter.
func TestLearnerExample(t *testing.T) {
	l := learner(t, counted(t, 1, 1, []int{1}))
	expectLearned(t, l, counted(t, 1, 1, []int{1}), 0)
	correct(t, l, correction{[]int{1, 1}, 2})
	expectLearned(t, l, api.Table{Order: 1, Words: 1, List: []api.Gram{{Words: []int{0}, N: 3}, {Words: []int{1}, N: 5}}}, 1)
}

// TestLearner checks tables against their definition, after corrections and after taking them back, in two orders.
func TestLearner(t *testing.T) {
	r := rand.New(rand.NewSource(4))
	for range 400 {
		order, words := 1+r.Intn(api.MaxOrder), 1+r.Intn(3)
		table := counted(t, order, words, slices.Repeat([][]int{randomSentence(r, words)}, r.Intn(3))...)
		l := learner(t, table)
		var list []correction
		for range r.Intn(12) {
			if r.Intn(3) == 0 {
				e := l.Undo()
				if (e == api.OK) != (len(list) > 0) || e != api.OK && e != api.ErrNone {
					t.Fatalf("Undo with %d corrections: error %d", len(list), e)
				}
				list = list[:max(len(list)-1, 0)]
			} else {
				c := correction{randomSentence(r, words), 1 + r.Intn(3)}
				correct(t, l, c)
				list = append(list, c)
			}
			expectLearned(t, l, learned(t, table, list), len(list))
		}
		other := learner(t, table)
		r.Shuffle(len(list), func(i, j int) { list[i], list[j] = list[j], list[i] })
		correct(t, other, list...)
		want, _ := l.Table()
		expectLearned(t, other, want, len(list))
	}
}

// TestLearnNothing checks learners that begin without n-grams, and sentences without words.
func TestLearnNothing(t *testing.T) {
	l := learner(t, api.Table{Order: 2, Words: 1})
	expectLearned(t, l, api.Table{Order: 2, Words: 1}, 0)
	correct(t, l, correction{nil, 1000})
	expectLearned(t, l, api.Table{Order: 2, Words: 1, List: []api.Gram{{Words: []int{0, 0}, N: 1000}}}, 1)
	expect(t, "Undo", l.Undo())
	expectLearned(t, l, api.Table{Order: 2, Words: 1}, 0)
}

// TestLearnErrors checks that tables are refused as CheckTable refuses them.
func TestLearnErrors(t *testing.T) {
	for _, table := range []api.Table{
		{}, {Order: 1}, {Words: 1}, {Order: api.MaxOrder + 1, Words: 1}, {Order: 1, Words: api.MaxWords + 1},
		{Order: 1, Words: 1, List: []api.Gram{{Words: []int{2}, N: 1}}},
		{Order: 1, Words: 1, List: []api.Gram{{Words: []int{1}, N: 0}}},
		{Order: 1, Words: 1, List: []api.Gram{{Words: []int{1}, N: 1}, {Words: []int{0}, N: 1}}},
		{List: make([]api.Gram, api.MaxGrams+1)}, {List: make([]api.Gram, api.MaxGrams)},
	} {
		want := gram.CheckTable(table)
		if l, e := talk.Learn(table); l != nil || e == api.OK || e != want {
			t.Errorf("order %d, %d words, %d n-grams: error %d, not %d", table.Order, table.Words, len(table.List), e, want)
		}
	}
}

// full returns a table with as many n-grams as there may be, none of which has only the last word or marks.
func full() api.Table {
	table := api.Table{Order: 2, Words: api.MaxWords}
	for n := range api.MaxGrams {
		table.List = append(table.List, api.Gram{Words: []int{1 + n/1000, 1 + n%1000}, N: 1})
	}
	return table
}

// often returns a table in which the word 1 was seen so often.
func often(n int) api.Table {
	return api.Table{Order: 1, Words: 1, List: []api.Gram{{Words: []int{1}, N: n}}}
}

// TestCorrectErrors checks which corrections are refused, and that nothing changes then.
func TestCorrectErrors(t *testing.T) {
	long := make([]int, api.MaxText+1)
	many := learner(t, often(1<<30-api.MaxLearned))
	for range api.MaxLearned {
		correct(t, many, correction{[]int{1}, 1})
	}
	for _, c := range []struct {
		what     string
		l        *talk.Learner
		sentence []int
		times    int
		want     api.Errno
	}{
		{"no times", learner(t, often(1)), []int{1}, 0, api.ErrArg},
		{"a negative number of times", learner(t, often(1)), []int{1}, -1, api.ErrArg},
		{"too many times", learner(t, often(1)), []int{1}, 1001, api.ErrArg},
		{"as many times as there may be", learner(t, often(1)), []int{1}, 1000, api.OK},
		{"the mark in a sentence", learner(t, often(1)), []int{1, 0}, 1, api.ErrArg},
		{"a word that does not exist", learner(t, often(1)), []int{2, 1}, 1, api.ErrArg},
		{"a negative word", learner(t, often(1)), []int{-1}, 1, api.ErrArg},
		{"too many words, which do not exist", learner(t, often(1)), long, 0, api.ErrLong},
		{"as many words as there may be", learner(t, often(1)), slices.Repeat([]int{1}, api.MaxText), 1000, api.OK},
		{"a word that would be seen too often", learner(t, often(1<<30-9)), []int{1, 1}, 5, api.ErrArg},
		{"a word that is seen as often as it may be", learner(t, often(1<<30-9)), []int{1, 1, 1}, 3, api.OK},
		{"new n-grams in a full table", learner(t, full()), []int{1}, 1, api.ErrLong},
		{"new n-grams in a full table, too many times", learner(t, full()), []int{1}, 1001, api.ErrArg},
		{"too many corrections", many, nil, 1, api.ErrLong},
		{"too many corrections, and a word that would be seen too often", many, []int{1}, 1, api.ErrLong},
		{"too many corrections, and no times", many, []int{1}, 0, api.ErrArg},
		{"too many corrections, and a word that does not exist", many, []int{2}, 1, api.ErrArg},
	} {
		before, _ := c.l.Table()
		count := c.l.Count()
		e := c.l.Correct(c.sentence, c.times)
		if e != c.want {
			t.Errorf("%s: error %d, not %d", c.what, e, c.want)
		}
		if e != api.OK {
			expectLearned(t, c.l, before, count)
			continue
		}
		expectLearned(t, c.l, learned(t, before, []correction{{c.sentence, c.times}}), count+1)
		expect(t, "Undo", c.l.Undo())
		expectLearned(t, c.l, before, count)
	}
}

// TestUndoAll checks that as many corrections as there may be can be taken back one by one, and others be added then.
func TestUndoAll(t *testing.T) {
	r := rand.New(rand.NewSource(5))
	l := learner(t, counted(t, 3, 4, []int{1, 2, 3}))
	var tables []api.Table
	for range api.MaxLearned {
		table, _ := l.Table()
		tables = append(tables, table)
		correct(t, l, correction{randomSentence(r, 4), 1 + r.Intn(1000)})
	}
	for count, want := range slices.Backward(tables) {
		if e := l.Correct([]int{1}, 1); count == api.MaxLearned-1 && e != api.ErrLong {
			t.Errorf("one correction more than there may be: error %d", e)
		} else if e == api.OK {
			expect(t, "Undo", l.Undo())
		}
		expect(t, "Undo", l.Undo())
		expectLearned(t, l, want, count)
	}
	for range 2 {
		if e := l.Undo(); e != api.ErrNone {
			t.Errorf("Undo without corrections: error %d", e)
		}
	}
	expectLearned(t, l, counted(t, 3, 4, []int{1, 2, 3}), 0)
}

// TestLearnedSentence checks that the weight of a sentence does not become less when it is learned, with the smoothing Added.
func TestLearnedSentence(t *testing.T) {
	r := rand.New(rand.NewSource(6))
	grew := 0
	for range 400 {
		order, words := 1+r.Intn(api.MaxOrder), 1+r.Intn(3)
		table := counted(t, order, words, randomSentence(r, words), randomSentence(r, words))
		l := learner(t, table)
		s := randomSentence(r, words)
		amount := fraction(r, 1+r.Intn(4), 1+r.Intn(3))
		before, e := gram.Sentence(api.Language{Table: table, By: api.Added, Amount: amount}, s)
		expect(t, "Sentence", e)
		correct(t, l, correction{s, 1 + r.Intn(50)})
		table, _ = l.Table()
		after, e := gram.Sentence(api.Language{Table: table, By: api.Added, Amount: amount}, s)
		expect(t, "Sentence", e)
		order = frac.Cmp(after, before)
		if order < 0 {
			t.Fatalf("the weight of %v: first %s, then %s", s, frac.Text(before), frac.Text(after))
		}
		grew += order
	}
	if grew < 300 {
		t.Errorf("%d weights grew", grew)
	}
}

// TestNoLearner checks nil learners, and zero learners, which behave like nil.
func TestNoLearner(t *testing.T) {
	for _, l := range []*talk.Learner{nil, {}} {
		if e := l.Correct(make([]int, api.MaxText+1), 0); e != api.ErrNil {
			t.Errorf("Correct: error %d", e)
		}
		if e := l.Undo(); e != api.ErrNil {
			t.Errorf("Undo: error %d", e)
		}
		if table, e := l.Table(); e != api.ErrNil || !isEmpty(table) {
			t.Errorf("Table: error %d", e)
		}
		if n := l.Count(); n != 0 {
			t.Errorf("Count: %d", n)
		}
	}
}
