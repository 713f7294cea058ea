package decode

import (
	"iter"

	"earshot/api"
	"earshot/numbers"
)

// frame has what is known after a frame: a value for each place at which hypotheses are, and one for each door that they can go through.
type frame[W any] struct {
	places map[place]W
	doors  map[door]W
}

// rule says what becomes of values.
type rule[W any] interface {
	// along returns the value of a way on, which has these factors.
	along(w W, factors ...*numbers.Factor) W
	// leave returns the value at a door after the end of a phone, which has this weight.
	leave(w W, end *numbers.Factor, g door) W
	// meet returns the value of two that come to the same place or door.
	meet(a, b W) W
}

// before returns the frame before the first one.
func before[W any](w W) frame[W] { return frame[W]{doors: map[door]W{{}: w}} }

// advance returns the places at the next frame, which says a symbol. ErrLong if there are too many.
func advance[W any](n *network, f frame[W], symbol int, r rule[W]) (map[place]W, api.Errno) {
	places := map[place]W{}
	for p, w := range arrivals(n, f, symbol, r) {
		add(places, p, w, r)
		if len(places) > api.MaxTokens {
			return nil, api.ErrLong
		}
	}
	return places, api.OK
}

// arrivals yields the ways on from a frame to the next one: the places to which they lead, and their values.
func arrivals[W any](n *network, f frame[W], symbol int, r rule[W]) iter.Seq2[place, W] {
	return func(yield func(place, W) bool) {
		for p, w := range f.places {
			for to, factors := range n.within(p, symbol) {
				if !yield(to, r.along(w, factors...)) {
					return
				}
			}
		}
		for g, w := range f.doors {
			for to, factors := range n.through(g, symbol) {
				if !yield(to, r.along(w, factors...)) {
					return
				}
			}
		}
	}
}

// add adds a value to those of a map.
func add[K comparable, W any](values map[K]W, k K, w W, r rule[W]) {
	if other, ok := values[k]; ok {
		w = r.meet(other, w)
	}
	values[k] = w
}

// after returns the frame with these places.
func after[W any](n *network, places map[place]W, r rule[W]) frame[W] {
	doors := map[door]W{}
	for p, w := range places {
		if g, end := n.exit(p); end != nil {
			add(doors, g, r.leave(w, end, g), r)
		}
	}
	return frame[W]{places, doors}
}

// ends returns the values at the end of a recording, of all that can end there.
func ends[W any](n *network, f frame[W], r rule[W]) []W {
	var list []W
	for g, w := range f.doors {
		if mark := n.mark(g); mark != nil {
			list = append(list, r.along(w, mark))
		}
	}
	return list
}
