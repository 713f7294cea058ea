package decode

import (
	"earshot/api"
	"earshot/frac"
	"earshot/numbers"
	"earshot/whole"
)

// visits is the rule that tells only which places are reached.
type visits struct{}

func (visits) along(struct{}, ...*numbers.Factor) struct{} { return struct{}{} }

func (visits) leave(struct{}, *numbers.Factor, door) struct{} { return struct{}{} }

func (visits) meet(_, _ struct{}) struct{} { return struct{}{} }

// Prove returns a proof that no trace has a greater weight than the best one.
func Prove(t api.Task, o []int) (api.Proof, api.Errno) {
	if e := checkRecording(t, o); e != api.OK {
		return api.Proof{}, e
	}
	n := build(t)
	frames, e := visit(n, o)
	if e != api.OK {
		return api.Proof{}, e
	}
	proof := api.Proof{Frames: make([][]api.Value, len(o))}
	x := end(n)
	for i := len(o) - 1; i >= 0; i-- {
		lefts := map[place]numbers.Product{}
		for _, p := range keys(frames[i], comparePlaces) {
			left, _ := x.left(p)
			exact := left.Exact()
			lefts[p] = claim(exact) // one number, because it would take longer to compare its many factors
			proof.Frames[i] = append(proof.Frames[i], api.Value{History: n.list(p.history), Word: p.word, Variant: p.variant, Phone: p.phone, State: p.state, Left: exact})
		}
		x = x.earlier(o[i], lefts)
	}
	return proof, api.OK
}

// visit returns the places that are reached at each frame.
func visit(n *network, o []int) ([]map[place]struct{}, api.Errno) {
	var frames []map[place]struct{}
	now := before(struct{}{})
	for _, symbol := range o {
		places, e := advance(n, now, symbol, visits{})
		if e != api.OK {
			return nil, e
		}
		frames, now = append(frames, places), after(n, places, visits{})
	}
	return frames, api.OK
}

// Verify reports whether a proof holds for a weight.
func Verify(t api.Task, o []int, weight api.Frac, p api.Proof) bool {
	if checkRecording(t, o) != api.OK || frac.Sign(weight) < 0 || len(p.Frames) != len(o) {
		return false
	}
	x := end(build(t))
	for i := len(o) - 1; i >= 0; i-- {
		lefts, ok := x.verify(p.Frames[i])
		if !ok {
			return false
		}
		x = x.earlier(o[i], lefts)
	}
	all, known := x.beyond(door{})
	return known && all.Compare(claim(weight)) <= 0
}

// claim returns a number that is not negative as a product.
func claim(a api.Frac) numbers.Product { return numbers.One().Times(numbers.FactorOf(a)) }

// verify returns the values of a frame by their places. It is false if they are no part of a proof, or not as great as they have to be.
func (x *future) verify(values []api.Value) (map[place]numbers.Product, bool) {
	lefts := map[place]numbers.Product{}
	var last place
	for i, v := range values {
		p, possible := x.network.placeOf(v)
		if !possible || i > 0 && comparePlaces(last, p) >= 0 || frac.Sign(v.Left) < 0 {
			return nil, false
		}
		left, known := x.left(p)
		if !known || left.Compare(claim(v.Left)) > 0 {
			return nil, false
		}
		lefts[p], last = claim(v.Left), p
	}
	return lefts, true
}

// placeOf returns the place of a value. It is false if there is no such place.
func (n *network) placeOf(v api.Value) (place, bool) {
	p := place{word: v.Word, variant: v.Variant, phone: v.Phone, state: v.State}
	size := copy(p.history[:], v.History)
	possible := size == len(n.list(history{})) && size == len(v.History) &&
		whole.AllWithin(v.History, 0, len(n.words)) &&
		whole.Within(v.Word, 1, len(n.words)) &&
		(size == 0 || v.History[size-1] == v.Word) &&
		whole.Within(v.Variant, 0, len(n.words[v.Word-1])-1) &&
		whole.Within(v.Phone, 0, len(n.phones(p))-1) &&
		whole.Within(v.State, 0, len(n.phones(p)[v.Phone].start)-1)
	return p, possible
}
