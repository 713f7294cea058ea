package model

import (
	"slices"

	"earshot/api"
	"earshot/frac"
	"earshot/numbers"
	"earshot/whole"
)

// Left returns a model that goes through its states in order, and says all symbols alike; ErrArg if there are no such numbers of states and symbols.
func Left(states, symbols int) (api.Model, api.Errno) {
	if !whole.Within(states, 1, api.MaxStates) || !whole.Within(symbols, 1, api.MaxSymbols) {
		return api.Model{}, api.ErrArg
	}
	m := blank(states, symbols)
	m.Start[0] = frac.Of(1)
	for i := range states {
		m.Move[i][i] = numbers.Ratio(1, 2)
		if i+1 < states {
			m.Move[i][i+1] = numbers.Ratio(1, 2)
		} else {
			m.End[i] = numbers.Ratio(1, 2)
		}
		for k := range symbols {
			m.Say[i][k] = numbers.Ratio(1, symbols)
		}
	}
	return m, api.OK
}

// Join returns the model that goes through models one after the other; ErrArg if there are none, or if they have different symbols, ErrLong if there are too many states.
func Join(models ...api.Model) (api.Model, api.Errno) {
	if e := checkTogether(models, true); e != api.OK {
		return api.Model{}, e
	}
	joined := models[0]
	for _, next := range models[1:] {
		joined = join(joined, next)
	}
	return rebuild(joined, canonical), api.OK
}

// join returns the model that goes through a, then through b.
func join(a, b api.Model) api.Model {
	m := beside(a, b)
	states := len(a.Start)
	clear(m.Start[states:])
	clear(m.End[:states])
	for i, end := range a.End {
		copy(m.Move[i][states:], numbers.Multiply(b.Start, end))
	}
	return m
}

// Mix returns the model that chooses one of several models; ErrArg if there are none, if they have different symbols, or if the weights are no distribution for them, ErrLong if there are too many states.
func Mix(weights []api.Frac, models ...api.Model) (api.Model, api.Errno) {
	fit := len(weights) == len(models) && frac.Distribution(weights)
	if e := checkTogether(models, fit); e != api.OK {
		return api.Model{}, e
	}
	var mixed api.Model
	for n, m := range models {
		m.Start = numbers.Multiply(m.Start, weights[n])
		mixed = beside(mixed, m)
	}
	return rebuild(mixed, canonical), api.OK
}

// checkTogether returns the error of models that become one, where fit says whether the other arguments are as they have to be.
func checkTogether(models []api.Model, fit bool) api.Errno {
	if e := checkModels(models...); e != api.OK {
		return e
	}
	if len(models) == 0 || !fit {
		return api.ErrArg
	}
	states := 0
	for _, m := range models {
		if symbols(m) != symbols(models[0]) {
			return api.ErrArg
		}
		states += len(m.Start)
	}
	if states > api.MaxStates {
		return api.ErrLong
	}
	return api.OK
}

// beside returns a model with the states of a, then those of b, which move only within their own model. All weights are those of a and b.
func beside(a, b api.Model) api.Model {
	m := api.Model{
		Start: slices.Concat(a.Start, b.Start),
		End:   slices.Concat(a.End, b.End),
		Say:   slices.Concat(a.Say, b.Say),
	}
	for _, row := range a.Move {
		m.Move = append(m.Move, slices.Concat(row, make([]api.Frac, len(b.Start))))
	}
	for _, row := range b.Move {
		m.Move = append(m.Move, slices.Concat(make([]api.Frac, len(a.Start)), row))
	}
	return m
}
