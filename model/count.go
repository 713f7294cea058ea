package model

import (
	"earshot/api"
	"earshot/frac"
	"earshot/lists"
	"earshot/numbers"
)

// Posterior returns the posterior weights of a recording; ErrNone if its likelihood is 0.
func Posterior(m api.Model, o []int) ([][]api.Frac, api.Errno) {
	if e := checkData(m, o); e != api.OK {
		return nil, e
	}
	s := scale(m, o)
	through := lists.Combine(s.forward(s.say).spoken, s.backward(frac.Sum, s.say).silent, timesRow)
	all := total(through)
	if len(all.N) == 0 {
		return nil, api.ErrNone
	}
	return lists.Map(through, func(row []api.Frac) []api.Frac { return numbers.Divide(row, all) }), api.OK
}

// total returns the weight of all paths, given the weights of those through each state at each frame: every path goes through a state at the first frame.
func total(through [][]api.Frac) api.Frac {
	if len(through) == 0 {
		return api.Frac{}
	}
	return frac.Sum(through[0]...)
}

// Count returns the expected counts of data.
func Count(m api.Model, data ...[]int) (api.Counts, api.Errno) {
	if e := checkData(m, data...); e != api.OK {
		return api.Counts{}, e
	}
	return countAll(m, data).shares(), api.OK
}

// countAll returns the expected counts of data.
func countAll(m api.Model, data [][]int) tally {
	counts := noCounts(len(m.Start), symbols(m))
	for _, o := range data {
		counts = counts.add(scale(m, o).count(allStates))
	}
	return counts
}

// Few returns the expected counts of a recording with pruning, and the lost part; ErrArg also if keep is less than 1, ErrNone if all is lost.
func Few(m api.Model, o []int, keep int) (api.Counts, api.Frac, api.Errno) {
	if e := checkData(m, o); e != api.OK {
		return api.Counts{}, api.Frac{}, e
	}
	if keep < 1 {
		return api.Counts{}, api.Frac{}, api.ErrArg
	}
	s := scale(m, o)
	kept := s.count(func(row []api.Frac) []api.Frac { return strongest(row, keep) })
	if kept.Used == 0 {
		return api.Counts{}, api.Frac{}, api.ErrNone
	}
	lost := frac.Sub(frac.Of(1), numbers.Quotient(kept.unit, s.likelihood()))
	return kept.shares(), lost, api.OK
}

// allStates keeps all states.
func allStates(row []api.Frac) []api.Frac { return row }

// strongest keeps the states with the greatest weights, so many as keep says, and of states with equal weights the first ones. It returns the weights with 0 for the other states.
func strongest(row []api.Frac, keep int) []api.Frac {
	kept := make([]api.Frac, len(row))
states:
	for i, x := range row {
		better := 0
		for j, y := range row {
			if order := frac.Cmp(y, x); order > 0 || order == 0 && j < i {
				better++
			}
			if better == keep {
				continue states
			}
		}
		kept[i] = x
	}
	return kept
}

// tally has expected counts in a unit: they are integers, and a count of 1 is as great as the unit.
type tally struct {
	api.Counts
	unit api.Frac
}

// noCounts returns the counts of no recordings, for a model with so many states and symbols.
func noCounts(states, symbols int) tally {
	m := blank(states, symbols)
	return tally{api.Counts{Start: m.Start, Move: m.Move, End: m.End, Say: m.Say}, frac.Of(1)}
}

// count returns the expected counts of the recording over all paths that are in a kept state at each frame. At each frame, keep replaces the forward weights of the other states by 0.
func (s scaled) count(keep func(row []api.Frac) []api.Frac) tally {
	fore := s.forward(func(t int, row []api.Frac) []api.Frac { return keep(s.say(t, row)) })
	back := s.backward(frac.Sum, func(t int, row []api.Frac) []api.Frac {
		return lists.Combine(s.say(t, row), fore.spoken[t], unlessZero)
	})
	through := lists.Combine(fore.spoken, back.silent, timesRow)
	counts, all := noCounts(len(s.start), len(s.says)), total(through)
	if len(all.N) == 0 {
		counts.Unused = 1
		return counts
	}
	counts.Used, counts.unit = 1, all
	counts.Start, counts.End = through[0], through[len(through)-1]
	for t, k := range s.recording {
		for i, x := range through[t] {
			counts.Say[i][k] = frac.Add(counts.Say[i][k], x)
		}
	}
	for i, row := range counts.Move {
		s.countMoves(i, row, fore, back)
	}
	return counts
}

// countMoves counts how often paths move from a state to each one.
func (s scaled) countMoves(from int, row []api.Frac, fore, back pass) {
	for to, move := range s.move[from] {
		if len(move.N) > 0 {
			row[to] = numbers.Times(move, sum(len(s.recording)-1, func(t int) api.Frac {
				return numbers.Times(fore.spoken[t][from], back.spoken[t+1][to])
			}))
		}
	}
}

// unlessZero returns x, and 0 if y is 0.
func unlessZero(x, y api.Frac) api.Frac {
	if len(y.N) == 0 {
		return api.Frac{}
	}
	return x
}

// add returns the sum of two tallies for the same model.
func (a tally) add(b tally) tally {
	unit := numbers.Multiple(a.unit, b.unit)
	p, q := numbers.Quotient(unit, a.unit), numbers.Quotient(unit, b.unit)
	add := func(x, y api.Frac) api.Frac { return frac.Add(numbers.Times(x, p), numbers.Times(y, q)) }
	addRows := func(x, y []api.Frac) []api.Frac { return lists.Combine(x, y, add) }
	return tally{api.Counts{
		Start:  addRows(a.Start, b.Start),
		Move:   lists.Combine(a.Move, b.Move, addRows),
		End:    addRows(a.End, b.End),
		Say:    lists.Combine(a.Say, b.Say, addRows),
		Used:   a.Used + b.Used,
		Unused: a.Unused + b.Unused,
	}, unit}
}

// shares returns the counts without their unit.
func (a tally) shares() api.Counts {
	share := func(row []api.Frac) []api.Frac { return numbers.Divide(row, a.unit) }
	return api.Counts{
		Start:  share(a.Start),
		Move:   lists.Map(a.Move, share),
		End:    share(a.End),
		Say:    lists.Map(a.Say, share),
		Used:   a.Used,
		Unused: a.Unused,
	}
}
