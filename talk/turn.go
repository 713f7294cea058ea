package talk

import (
	"slices"
	"strings"

	"earshot/api"
	"earshot/feature"
	"earshot/lattice"
	"earshot/written"
)

// refusal is what a step of a turn panics with if the turn has no more than it has by then.
type refusal api.Errno

// must returns a result; if there is an error instead, the turn is given up.
func must[T any](result T, e api.Errno) T {
	if e != api.OK {
		panic(refusal(e))
	}
	return result
}

// turn returns the turn of a segment, and its features. A turn that is given up has what was found until then.
func (s *session) turn(segment api.Segment) (t api.Turn, features [][]int) {
	bare := api.Turn{From: segment.From, To: segment.To}
	defer func() {
		switch recover().(type) {
		case nil, refusal:
		default: // a mistake of a layer, of which nothing is kept, because a session must not panic
			t, features = bare, nil
		}
	}()
	t = bare
	samples := must(s.samples(segment))
	features = must(feature.Extract(api.Recording{Rate: s.Rate, Samples: samples}, s.Recipe))
	symbols := must(feature.Quantize(features, s.Book))
	l := must(lattice.Make(s.Task, symbols))
	route := must(lattice.Best(l, s.Task.Language))
	parts := must(lattice.Parts(l, s.Task.Language))
	for i, arc := range route.Arcs {
		t.Words = append(t.Words, s.Names[route.Words[i]-1])
		t.Weights = append(t.Weights, parts[arc])
	}
	t.Text = strings.Join(t.Words, " ")
	t.Text = must(written.WriteText(t.Text)) // a text that is refused stays as it is
	return t, features
}

// events returns the events of a turn.
func (s *session) events(t api.Turn) []api.Event {
	at := t.From / s.Recipe.Step
	var list []api.Event
	for i, word := range t.Words {
		e := api.Event{Weight: t.Weights[i], At: at}
		switch {
		case word == yes:
			e.Kind = api.EventYes
		case word == no:
			e.Kind = api.EventNo
		case slotOf(s.Plan, word) >= 0:
			e.Kind, e.Value = api.EventValue, word
		default:
			continue
		}
		list = append(list, e)
	}
	if len(list) == 0 {
		return []api.Event{{Kind: api.EventNothing, At: at}}
	}
	return list
}

// ownTurn returns a copy of a turn.
func ownTurn(t api.Turn) api.Turn {
	t.Words, t.Weights = slices.Clone(t.Words), ownRow(t.Weights)
	return t
}
