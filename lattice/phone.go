package lattice

import (
	"math/bits"

	"earshot/api"
	"earshot/frac"
	"earshot/lists"
	"earshot/numbers"
)

// phone is a model, with its weights in lowest terms.
type phone struct {
	start   []api.Frac
	reach   [][]api.Frac // for each state, the weights with which it is reached from all states
	end     []api.Frac
	say     [][]api.Frac
	outline outline
}

// outline says which weights of a model are greater than 0. Sets of states are numbers with a bit for each state.
type outline struct {
	start uint64
	move  []uint64
	end   uint64
	say   []uint64 // for each symbol, the states that can say it
}

func phoneOf(m api.Model) *phone {
	return &phone{
		start:   canonical(m.Start),
		reach:   lists.Map(lists.Columns(m.Move), canonical),
		end:     canonical(m.End),
		say:     lists.Map(m.Say, canonical),
		outline: outline{positive(m.Start), lists.Map(m.Move, positive), positive(m.End), lists.Map(lists.Columns(m.Say), positive)},
	}
}

// canonical returns a copy of a row, in new memory.
func canonical(row []api.Frac) []api.Frac { return lists.Map(row, frac.Canon) }

// positive returns the set of the states that have weights greater than 0.
func positive(weights []api.Frac) uint64 {
	var set uint64
	for i, w := range weights {
		if frac.Sign(w) > 0 {
			set |= 1 << i
		}
	}
	return set
}

// pass reports, for each number of frames, whether the phone can end behind them, if begins says the same for the phones before it. Both lists end with the last true.
func (x outline) pass(begins []bool, o []int) []bool {
	ends := make([]bool, 1, len(o)+1)
	last := 0
	var inside uint64
	for t, symbol := range o {
		if inside == 0 && t >= len(begins) {
			break
		}
		inside = x.speak(inside, t < len(begins) && begins[t], symbol)
		ends = append(ends, inside&x.end != 0)
		if ends[t+1] {
			last = t + 2
		}
	}
	return ends[:last]
}

// speak returns the states in which the phone can be at the next frame, which says a symbol.
func (x outline) speak(inside uint64, begins bool, symbol int) uint64 {
	var next uint64
	if begins {
		next = x.start
	}
	for ; inside != 0; inside &= inside - 1 {
		next |= x.move[bits.TrailingZeros64(inside)]
	}
	return next & x.say[symbol]
}

// pass returns, for each number of frames, the weight with which the phones up to this one explain them, if begins are these weights for the phones before it. Both lists end with the last weight that is not 0.
func (p *phone) pass(begins []api.Frac, o []int) []api.Frac {
	ends := make([]api.Frac, len(p.outline.pass(lists.Map(begins, func(w api.Frac) bool { return frac.Sign(w) > 0 }), o)))
	inside := make([]api.Frac, len(p.start))
	// The weights inside are multiplied by a scale so that they are integers.
	scale := frac.Of(1)
	for t := 1; t < len(ends); t++ {
		var begin api.Frac
		if t <= len(begins) {
			begin = numbers.Times(begins[t-1], scale)
		}
		spoken := p.speak(inside, begin, o[t-1])
		common := numbers.Denominator(spoken)
		inside, scale = numbers.Multiply(spoken, common), frac.Mul(scale, common)
		ends[t] = numbers.Quotient(dot(inside, p.end), scale)
	}
	return ends
}

// speak returns the weights of the states at the next frame, which says a symbol, if the phone begins there with a weight.
func (p *phone) speak(inside []api.Frac, begin api.Frac, symbol int) []api.Frac {
	spoken := make([]api.Frac, len(inside))
	for j := range spoken {
		silent := frac.Add(dot(inside, p.reach[j]), numbers.Times(begin, p.start[j]))
		spoken[j] = numbers.Times(silent, p.say[j][symbol])
	}
	return spoken
}

// dot returns the sum of the products of the elements of two rows.
func dot(a, b []api.Frac) api.Frac { return frac.Sum(lists.Combine(a, b, numbers.Times)...) }
