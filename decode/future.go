package decode

import (
	"iter"

	"earshot/numbers"
)

// future has the greatest weights of what can still come after a frame.
type future struct {
	network *network
	symbol  int                       // of the next frame
	lefts   map[place]numbers.Product // the greatest weights of what comes after the next frame; nil if there is no next frame
	doors   map[door]numbers.Product  // the greatest weights of the ways on through doors, as far as they were computed
}

// end returns the future after the last frame.
func end(n *network) *future {
	return &future{network: n, doors: map[door]numbers.Product{}}
}

// earlier returns the future one frame earlier, if this frame has a symbol, and its places have these greatest weights.
func (x *future) earlier(symbol int, lefts map[place]numbers.Product) *future {
	return &future{x.network, symbol, lefts, map[door]numbers.Product{}}
}

// left returns the greatest weight of a way on from a place to the end, 0 if there is none. It is false if a way leads to a place of which the weight is not known.
func (x *future) left(p place) (numbers.Product, bool) {
	var stay numbers.Product
	known := true
	if x.lefts != nil {
		stay, known = x.greatest(x.network.within(p, x.symbol))
	}
	g, end := x.network.exit(p)
	if end == nil || !known {
		return stay, known
	}
	leave, known := x.beyond(g)
	return greater(stay, leave.Times(end)), known
}

// beyond returns the greatest weight of a way on through a door, as left does.
func (x *future) beyond(g door) (numbers.Product, bool) {
	if w, ok := x.doors[g]; ok {
		return w, true
	}
	var w numbers.Product
	known := true
	if x.lefts != nil {
		w, known = x.greatest(x.network.through(g, x.symbol))
	} else if mark := x.network.mark(g); mark != nil {
		w = numbers.One().Times(mark)
	}
	if known {
		x.doors[g] = w
	}
	return w, known
}

// greatest returns the greatest weight of some ways to the next frame and on to the end, as left does.
func (x *future) greatest(ways iter.Seq2[place, []*numbers.Factor]) (numbers.Product, bool) {
	var most numbers.Product
	for to, factors := range ways {
		left, known := x.lefts[to]
		if !known {
			return most, false
		}
		most = greater(most, left.Times(factors...))
	}
	return most, true
}

func greater(a, b numbers.Product) numbers.Product {
	if b.Compare(a) > 0 {
		return b
	}
	return a
}
