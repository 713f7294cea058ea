// Tests of P4.1: Check, Equal.

package model_test

import (
	"math/rand"
	"slices"
	"testing"

	"earshot/api"
	"earshot/frac"
	"earshot/model"
)

// wrongLengths returns models with lists of wrong lengths.
func wrongLengths(m api.Model) []api.Model {
	var list []api.Model
	change := func(f func(m *api.Model)) {
		c := copyModel(m)
		f(&c)
		list = append(list, c)
	}
	last := len(m.Start) - 1
	change(func(m *api.Model) { m.Start = m.Start[:last] })
	change(func(m *api.Model) { m.Start = append(m.Start, api.Frac{}) })
	change(func(m *api.Model) { m.Move = m.Move[:last] })
	change(func(m *api.Model) { m.Move = append(m.Move, m.Move[0]) })
	change(func(m *api.Model) { m.Move[last] = m.Move[last][:last] })
	change(func(m *api.Model) { m.Move[0] = append(m.Move[0], api.Frac{}) })
	change(func(m *api.Model) { m.End = m.End[:last] })
	change(func(m *api.Model) { m.End = append(m.End, frac.Of(1)) })
	change(func(m *api.Model) { m.Say = m.Say[:last] })
	change(func(m *api.Model) { m.Say = append(m.Say, m.Say[0]) })
	change(func(m *api.Model) { m.Say[last] = append(m.Say[last], api.Frac{}) })
	change(func(m *api.Model) { m.Say[0] = append(m.Say[0], api.Frac{}) })
	change(func(m *api.Model) { m.Start = nil })
	change(func(m *api.Model) { m.Move = nil })
	change(func(m *api.Model) { m.End = nil })
	change(func(m *api.Model) { m.Say = nil })
	change(func(m *api.Model) { m.Move[0] = nil })
	change(func(m *api.Model) { m.Say[last] = nil })
	return list
}

// wrongWeights returns models in which one of the lists is no distribution, for a model whose weights are less than 1.
func wrongWeights(m api.Model) []api.Model {
	var list []api.Model
	third := api.Frac{N: []uint32{1}, D: []uint32{3}}
	change := func(row func(m api.Model) []api.Frac, i int) {
		for _, more := range []api.Frac{third, frac.Neg(third), frac.Of(-1)} {
			c := copyModel(m)
			row(c)[i] = frac.Add(row(c)[i], more)
			list = append(list, c)
		}
		// The sum stays 1, but a weight becomes negative.
		c := copyModel(m)
		l := row(c)
		l[i] = frac.Of(-1)
		if j := (i + 1) % len(l); j != i {
			l[j] = api.Frac{}
			l[j] = frac.Sub(frac.Of(1), frac.Sum(l...))
			list = append(list, c)
		}
	}
	for i := range m.Start {
		change(func(m api.Model) []api.Frac { return m.Start }, i)
		change(func(m api.Model) []api.Frac { return m.End }, i)
		for j := range m.Start {
			change(func(m api.Model) []api.Frac { return m.Move[i] }, j)
		}
		for k := range m.Say[i] {
			change(func(m api.Model) []api.Frac { return m.Say[i] }, k)
		}
	}
	return list
}

// flat returns lists with so many states and symbols, also if there can be no such model: it starts in the first state, then ends, and says the first symbol.
func flat(states, symbols int) api.Model {
	first := func(n int) []api.Frac {
		row := make([]api.Frac, n)
		if n > 0 {
			row[0] = frac.Of(1)
		}
		return row
	}
	m := api.Model{Start: first(states)}
	for range states {
		m.Move, m.End, m.Say = append(m.Move, make([]api.Frac, states)), append(m.End, frac.Of(1)), append(m.Say, first(symbols))
	}
	return m
}

func TestCheck(t *testing.T) {
	for _, x := range examples(1, 100) {
		if e := model.Check(x.m); e != api.OK {
			t.Errorf("%v: error %d", x.m, e)
		}
	}
	for _, c := range []struct {
		states, symbols int
		want            api.Errno
	}{
		{1, 1, api.OK}, {40, 64, api.OK}, {40, 1, api.OK}, {1, 64, api.OK},
		{0, 0, api.ErrArg}, {1, 0, api.ErrArg}, {40, 0, api.ErrArg},
		{41, 64, api.ErrLong}, {40, 65, api.ErrLong}, {41, 65, api.ErrLong}, {41, 0, api.ErrLong}, {1, 1000, api.ErrLong},
	} {
		if e := model.Check(flat(c.states, c.symbols)); e != c.want {
			t.Errorf("%d states and %d symbols: error %d, not %d", c.states, c.symbols, e, c.want)
		}
	}
}

func TestCheckWrongModels(t *testing.T) {
	r := rand.New(rand.NewSource(2))
	for _, m := range []api.Model{randomModel(r, 2, 2, 0), randomModel(r, 3, 2, 0), randomModel(r, 2, 3, 0)} {
		for _, wrong := range slices.Concat(wrongLengths(m), wrongWeights(m)) {
			if e := model.Check(wrong); e != api.ErrArg {
				t.Errorf("%v: error %d", wrong, e)
			}
		}
	}
}

// TestCheckLong checks that the elements of Start and of the first row of Say decide, before anything else.
func TestCheckLong(t *testing.T) {
	many := make([]api.Frac, 65)
	for _, c := range []struct {
		m    api.Model
		want api.Errno
	}{
		{api.Model{Start: many[:41]}, api.ErrLong}, {api.Model{Start: many[:40]}, api.ErrArg},
		{api.Model{Say: [][]api.Frac{many}}, api.ErrLong}, {api.Model{Say: [][]api.Frac{many[:64]}}, api.ErrArg},
		{api.Model{Say: [][]api.Frac{nil, many}}, api.ErrArg}, {api.Model{End: many}, api.ErrArg}, {api.Model{Move: [][]api.Frac{many}}, api.ErrArg},
		{api.Model{Start: many[:1], Say: [][]api.Frac{many[:1], many}}, api.ErrArg}, {api.Model{}, api.ErrArg},
	} {
		if e := model.Check(c.m); e != c.want {
			t.Errorf("error %d, not %d", e, c.want)
		}
	}
}

func TestEqual(t *testing.T) {
	r := rand.New(rand.NewSource(3))
	for range 30 {
		m := randomModel(r, 2, 2, 0)
		written := copyModel(m)
		for _, row := range rowsOf(written) {
			for i, a := range row {
				row[i] = api.Frac{Neg: a.Neg, N: append(slices.Clone(a.N), 0), D: append(slices.Clone(a.D), 0)}
			}
		}
		if !model.Equal(m, m) || !model.Equal(m, written) || !model.Equal(written, m) {
			t.Errorf("%v is equal to itself", m)
		}
		for _, other := range slices.Concat(wrongLengths(m), wrongWeights(m)) {
			if model.Equal(m, other) || model.Equal(other, m) || !model.Equal(other, other) {
				t.Errorf("%v and %v are different", m, other)
			}
		}
	}
}

// TestEqualAnyModels checks models that are not valid, and lists that only together have equal lengths.
func TestEqualAnyModels(t *testing.T) {
	row, two := []api.Frac{frac.Of(5)}, make([]api.Frac, 2)
	for _, m := range []api.Model{{}, {Start: row}, {Move: [][]api.Frac{row, nil}}, {End: two}, {Say: [][]api.Frac{two, nil, row}}} {
		for _, c := range []struct {
			other api.Model
			want  bool
		}{
			{m, true}, {api.Model{Start: []api.Frac{}, Move: [][]api.Frac{}}, isZeroModel(m)}, {api.Model{Say: [][]api.Frac{nil}}, false}, {api.Model{Move: [][]api.Frac{{}}}, false},
		} {
			if got := model.Equal(m, c.other); got != c.want {
				t.Errorf("%v and %v: %t", m, c.other, got)
			}
		}
	}
	moved := api.Model{Start: row, Move: [][]api.Frac{row}, End: row}
	if said := (api.Model{Start: row, End: row, Say: [][]api.Frac{row}}); model.Equal(moved, said) || model.Equal(said, moved) {
		t.Error("Move and Say are different lists")
	}
	empty := api.Model{Move: [][]api.Frac{{}}, Say: [][]api.Frac{{}, nil}}
	if !model.Equal(empty, api.Model{Start: []api.Frac{}, Move: [][]api.Frac{nil}, Say: [][]api.Frac{nil, {}}}) {
		t.Error("nil and empty lists are the same")
	}
	for _, row := range [][]api.Frac{fs(t, "-1/2", "3"), {{Neg: true}, {D: []uint32{7}}}} {
		if !model.Equal(api.Model{End: row}, api.Model{End: row}) {
			t.Errorf("%v", row)
		}
	}
	if !model.Equal(api.Model{End: []api.Frac{{}}}, api.Model{End: []api.Frac{{Neg: true, N: []uint32{0}}}}) {
		t.Error("0 is 0")
	}
}
