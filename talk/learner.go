package talk

import (
	"slices"

	"earshot/api"
	"earshot/checks"
	"earshot/gram"
	"earshot/whole"
)

// mostTimes is how often a correction counts at most.
const mostTimes = 1000

// Learner learns from corrections. Learn makes it; the zero Learner behaves like nil.
type Learner struct {
	table   api.Table
	learned [][]api.Gram // what each correction has added
}

// Learn returns a learner that begins with a table.
func Learn(t api.Table) (*Learner, api.Errno) {
	own, e := ownTable(t)
	if e != api.OK {
		return nil, e
	}
	return &Learner{table: own}, api.OK
}

// ownTable returns a copy of a table, or the error of the table.
func ownTable(t api.Table) (api.Table, api.Errno) { return gram.Drop(t, 1) }

// isMissing reports whether there is no learner.
func (l *Learner) isMissing() bool { return l == nil || l.table.Order == 0 }

// Correct adds a correction; ErrLong also if there are too many, or if the table would be too long, ErrArg also if an n-gram would have been seen too often.
func (l *Learner) Correct(sentence []int, times int) api.Errno {
	if l.isMissing() {
		return api.ErrNil
	}
	added, e := gram.Count(l.table.Order, l.table.Words, sentence)
	if e = checks.First(e, checks.Argument(whole.Within(times, 1, mostTimes))); e != api.OK {
		return e
	}
	if len(l.learned) == api.MaxLearned {
		return api.ErrLong
	}
	for i := range added.List {
		added.List[i].N *= times
	}
	merged, e := gram.Merge(l.table, added)
	if e != api.OK {
		return e
	}
	l.table, l.learned = merged, append(l.learned, added.List)
	return api.OK
}

// Undo takes the last correction back; ErrNone if there is none.
func (l *Learner) Undo() api.Errno {
	if l.isMissing() {
		return api.ErrNil
	}
	last := len(l.learned) - 1
	if last < 0 {
		return api.ErrNone
	}
	l.table.List = without(l.table.List, l.learned[last])
	l.learned = slices.Delete(l.learned, last, last+1)
	return api.OK
}

// without returns the n-grams of a table without some that were added to it.
func without(grams, added []api.Gram) []api.Gram {
	var left []api.Gram
	for _, g := range grams {
		if len(added) > 0 && slices.Equal(g.Words, added[0].Words) {
			g.N -= added[0].N
			added = added[1:]
		}
		if g.N > 0 {
			left = append(left, g)
		}
	}
	return left
}

// Table returns the table that has been learned so far.
func (l *Learner) Table() (api.Table, api.Errno) {
	if l.isMissing() {
		return api.Table{}, api.ErrNil
	}
	return ownTable(l.table)
}

// Count returns the number of corrections.
func (l *Learner) Count() int {
	if l.isMissing() {
		return 0
	}
	return len(l.learned)
}
