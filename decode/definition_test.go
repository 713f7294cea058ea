// What the chapter defines, computed as directly as possible.

package decode_test

import (
	"cmp"
	"fmt"
	"math/big"
	"slices"

	"earshot/api"
	"earshot/gram"
)

var one = big.NewRat(1, 1)

func product(list ...*big.Rat) *big.Rat {
	all := big.NewRat(1, 1)
	for _, x := range list {
		all.Mul(all, x)
	}
	return all
}

// allPoints returns all points that have a word, variant, phone and state of a task, in order.
func allPoints(x api.Task) []api.Point {
	var list []api.Point
	for _, begins := range []bool{false, true} {
		for i, word := range x.Words {
			for k, v := range word {
				for n, phone := range v.Phones {
					for state := range x.Phones[phone-1].Start {
						list = append(list, api.Point{New: begins, Word: i + 1, Variant: k, Phone: n, State: state})
					}
				}
			}
		}
	}
	return list
}

func phonesOf(x api.Task, p api.Point) []int { return x.Words[p.Word-1][p.Variant].Phones }

func modelOf(x api.Task, p api.Point) api.Model { return x.Phones[phonesOf(x, p)[p.Phone]-1] }

func atEnd(x api.Task, p api.Point) bool { return p.Phone == len(phonesOf(x, p))-1 }

// mayFollow reports whether one point may come after another one in a trace, for points that the task has.
func mayFollow(x api.Task, p, q api.Point) bool {
	if q.New {
		return atEnd(x, p) && q.Phone == 0
	}
	return q.Word == p.Word && q.Variant == p.Variant && (q.Phone == p.Phone || q.Phone == p.Phone+1)
}

// mayBe reports whether a list is a trace for so many frames.
func mayBe(x api.Task, frames int, trace []api.Point) bool {
	if len(trace) != frames {
		return false
	}
	points := allPoints(x)
	for i, p := range trace {
		if !slices.Contains(points, p) || i == 0 && (!p.New || p.Phone != 0) || i > 0 && !mayFollow(x, trace[i-1], p) || i == frames-1 && !atEnd(x, p) {
			return false
		}
	}
	return true
}

// traces returns all traces for so many frames, in order.
func traces(x api.Task, frames int) [][]api.Point {
	points := allPoints(x)
	list := [][]api.Point{nil}
	for i := range frames {
		var longer [][]api.Point
		for _, trace := range list {
			for _, p := range points {
				if i == 0 && p.New && p.Phone == 0 || i > 0 && mayFollow(x, trace[i-1], p) {
					longer = append(longer, append(slices.Clone(trace), p))
				}
			}
		}
		list = longer
	}
	return slices.DeleteFunc(list, func(trace []api.Point) bool { return frames > 0 && !atEnd(x, trace[frames-1]) })
}

// wordsOf returns the words of points.
func wordsOf(trace []api.Point) []int {
	var words []int
	for _, p := range trace {
		if p.New {
			words = append(words, p.Word)
		}
	}
	return words
}

// weightOf returns the weight of a trace.
func weightOf(x api.Task, o []int, trace []api.Point) *big.Rat {
	sentence, e := gram.Sentence(x.Language, wordsOf(trace))
	if e != api.OK {
		panic(e)
	}
	weight := valueOf(sentence)
	times := func(a api.Frac) { weight.Mul(weight, valueOf(a)) }
	begins := func(i int) bool { return i == 0 || trace[i].New || trace[i].Phone != trace[i-1].Phone }
	for i, p := range trace {
		m := modelOf(x, p)
		if p.New {
			times(x.Words[p.Word-1][p.Variant].Weight)
		}
		times(m.Say[p.State][o[i]])
		if begins(i) {
			times(m.Start[p.State])
		}
		if i == len(trace)-1 || begins(i+1) {
			times(m.End[p.State])
		} else {
			times(m.Move[p.State][trace[i+1].State])
		}
	}
	return weight
}

// bestOf returns the best trace and its weight, 0 if there is none, and the sum of the weights of all traces.
func bestOf(x api.Task, o []int) (best []api.Point, weight, total *big.Rat) {
	weight, total = new(big.Rat), new(big.Rat)
	for _, trace := range traces(x, len(o)) {
		w := weightOf(x, o, trace)
		total.Add(total, w)
		if w.Cmp(weight) > 0 {
			best, weight = trace, w
		}
	}
	return best, weight, total
}

// spot is a place as the definition has it, with the history in a string.
type spot struct {
	history string
	point   api.Point // with New false
}

func spotOf(history []int, p api.Point) spot {
	p.New = false
	return spot{fmt.Sprint(history), p}
}

// hypothesis is a token.
type hypothesis struct {
	history []int
	trace   []api.Point
	weight  *big.Rat
}

func (h hypothesis) last() api.Point { return h.trace[len(h.trace)-1] }

func (h hypothesis) spot() spot { return spotOf(h.history, h.last()) }

// after returns the weight of a number after a history.
func after(x api.Task, history []int, w int) *big.Rat {
	a, e := gram.Weight(x.Language, history, w)
	if e != api.OK {
		panic(e)
	}
	return valueOf(a)
}

// step is a way on from a place, or to the first frame.
type step struct {
	history []int
	point   api.Point
	factor  *big.Rat
}

// steps returns the ways on from a place with weights greater than 0, to a frame that says a symbol. There is no place (nil) before the first frame.
func steps(x api.Task, history []int, from *api.Point, symbol int) []step {
	var list []step
	for _, p := range allPoints(x) {
		if from == nil && (!p.New || p.Phone != 0) || from != nil && !mayFollow(x, *from, p) {
			continue
		}
		m := modelOf(x, p)
		s := step{history, p, valueOf(m.Say[p.State][symbol])}
		times := func(a *big.Rat) { s.factor = product(s.factor, a) }
		if p.New {
			times(after(x, history, p.Word))
			times(valueOf(x.Words[p.Word-1][p.Variant].Weight))
			next, e := gram.Next(x.Language, history, p.Word)
			if e != api.OK {
				panic(e)
			}
			s.history = next
		}
		if from != nil && !p.New && p.Phone == from.Phone {
			times(valueOf(m.Move[from.State][p.State]))
		} else {
			times(valueOf(m.Start[p.State]))
			if from != nil {
				times(valueOf(modelOf(x, *from).End[from.State]))
			}
		}
		if s.factor.Sign() > 0 {
			list = append(list, s)
		}
	}
	return list
}

func comparePoints(p, q api.Point) int {
	number := func(b bool) int {
		if b {
			return 1
		}
		return 0
	}
	return cmp.Or(cmp.Compare(number(p.New), number(q.New)), cmp.Compare(p.Word, q.Word), cmp.Compare(p.Variant, q.Variant), cmp.Compare(p.Phone, q.Phone), cmp.Compare(p.State, q.State))
}

// compareHypotheses puts the greatest weight first, and of equal weights the first trace.
func compareHypotheses(a, b hypothesis) int {
	return cmp.Or(b.weight.Cmp(a.weight), slices.CompareFunc(a.trace, b.trace, comparePoints))
}

// start returns the history before the first word.
func start(x api.Task) []int { return make([]int, x.Language.Table.Order-1) }

// tokens returns the tokens of the next frame before any are dropped, the best ones first.
func tokens(x api.Task, now []hypothesis, symbol int) []hypothesis {
	best := map[spot]hypothesis{}
	for _, h := range now {
		var from *api.Point
		if len(h.trace) > 0 {
			last := h.last()
			from = &last
		}
		for _, s := range steps(x, h.history, from, symbol) {
			longer := hypothesis{s.history, append(slices.Clone(h.trace), s.point), product(h.weight, s.factor)}
			if other, ok := best[longer.spot()]; !ok || compareHypotheses(longer, other) < 0 {
				best[longer.spot()] = longer
			}
		}
	}
	var list []hypothesis
	for _, h := range best {
		list = append(list, h)
	}
	slices.SortFunc(list, compareHypotheses)
	return list
}

// nowhere returns what a search has before the first frame.
func nowhere(x api.Task) []hypothesis {
	return []hypothesis{{start(x), nil, one}}
}

// outcome is what a search has found.
type outcome struct {
	tokens  []hypothesis // of the last frame
	result  hypothesis
	found   bool
	bound   *big.Rat
	dropped int
}

// searched searches as the chapter defines it.
func searched(x api.Task, b api.Beam, o []int) outcome {
	out := outcome{tokens: nowhere(x), bound: new(big.Rat)}
	for _, symbol := range o {
		list := tokens(x, out.tokens, symbol)
		out.tokens = nil
		for _, h := range list {
			if len(out.tokens) < b.Width && h.weight.Cmp(product(valueOf(b.Ratio), list[0].weight)) >= 0 {
				out.tokens = append(out.tokens, h)
				continue
			}
			out.dropped++
			if h.weight.Cmp(out.bound) > 0 {
				out.bound = h.weight
			}
		}
	}
	for _, h := range out.tokens {
		weight := product(h.weight, after(x, h.history, 0))
		if len(h.trace) > 0 {
			if !atEnd(x, h.last()) {
				continue
			}
			weight.Mul(weight, valueOf(modelOf(x, h.last()).End[h.last().State]))
		}
		h.weight = weight
		if weight.Sign() > 0 && (!out.found || compareHypotheses(h, out.result) < 0) {
			out.result, out.found = h, true
		}
	}
	return out
}

// report returns the report of a search.
func (x outcome) report() string {
	r := fmt.Sprintf("found %v: %s, words %v, weight ", x.found, showTrace(x.result.trace), wordsOf(x.result.trace))
	weight := new(big.Rat)
	if x.found {
		weight = x.result.weight
	}
	return r + fmt.Sprintf("%s, bound %s, dropped %d, proved %v", weight.RatString(), x.bound.RatString(), x.dropped, x.found && weight.Cmp(x.bound) >= 0)
}

// sure returns the words that all tokens of the last frame have at the beginning.
func (x outcome) sure() []int {
	if len(x.tokens) == 0 {
		return nil
	}
	common := wordsOf(x.tokens[0].trace)
	for _, h := range x.tokens {
		words := wordsOf(h.trace)
		for len(common) > len(words) || !slices.Equal(common, words[:len(common)]) {
			common = common[:len(common)-1]
		}
	}
	return common
}

// leftOf returns the greatest weight of a way on from a place at a frame to the end, 0 if there is none.
func leftOf(x api.Task, o []int, frame int, history []int, p api.Point) *big.Rat {
	most := new(big.Rat)
	raise := func(w *big.Rat) {
		if w.Cmp(most) > 0 {
			most = w
		}
	}
	if frame == len(o)-1 {
		if atEnd(x, p) {
			raise(product(valueOf(modelOf(x, p).End[p.State]), after(x, history, 0)))
		}
		return most
	}
	for _, s := range steps(x, history, &p, o[frame+1]) {
		raise(product(s.factor, leftOf(x, o, frame+1, s.history, s.point)))
	}
	return most
}

// proofOf returns the proof that Prove has to return, as showProof writes it.
func proofOf(x api.Task, o []int) string {
	var proof string
	now := nowhere(x)
	for frame, symbol := range o {
		now = tokens(x, now, symbol)
		slices.SortFunc(now, func(a, b hypothesis) int {
			p, q := a.last(), b.last()
			p.New, q.New = false, false
			return cmp.Or(slices.Compare(a.history, b.history), comparePoints(p, q))
		})
		if frame > 0 {
			proof += "\n"
		}
		for i, h := range now {
			if i > 0 {
				proof += "; "
			}
			p := h.last()
			proof += fmt.Sprintf("%v/%d.%d.%d.%d: %s", h.history, p.Word, p.Variant, p.Phone, p.State, leftOf(x, o, frame, h.history, p).RatString())
		}
	}
	return proof
}

func pointOf(v api.Value) api.Point {
	return api.Point{Word: v.Word, Variant: v.Variant, Phone: v.Phone, State: v.State}
}

// isPossible reports whether a value has a place and is not negative.
func isPossible(x api.Task, v api.Value) bool {
	n := x.Language.Table.Order - 1
	for _, w := range v.History {
		if w < 0 || w > len(x.Words) {
			return false
		}
	}
	return len(v.History) == n && (n == 0 || v.History[n-1] == v.Word) && slices.Contains(allPoints(x), pointOf(v)) && valueOf(v.Left).Sign() >= 0
}

// isList reports whether the values of a frame are possible, of different places, and in order.
func isList(x api.Task, values []api.Value) bool {
	for i, v := range values {
		if !isPossible(x, v) {
			return false
		}
		if i > 0 && cmp.Or(slices.Compare(values[i-1].History, v.History), comparePoints(pointOf(values[i-1]), pointOf(v))) >= 0 {
			return false
		}
	}
	return true
}

// holds reports whether a proof holds for a weight, for a task and a recording that are valid.
func holds(x api.Task, o []int, weight *big.Rat, p api.Proof) bool {
	if weight.Sign() < 0 || len(p.Frames) != len(o) {
		return false
	}
	lefts := make([]map[spot]*big.Rat, len(o))
	for i, values := range p.Frames {
		if !isList(x, values) {
			return false
		}
		lefts[i] = map[spot]*big.Rat{}
		for _, v := range values {
			lefts[i][spotOf(v.History, pointOf(v))] = valueOf(v.Left)
		}
	}
	atMost := func(list []step, frame int, most *big.Rat) bool {
		for _, s := range list {
			left, ok := lefts[frame][spotOf(s.history, s.point)]
			if !ok || product(s.factor, left).Cmp(most) > 0 {
				return false
			}
		}
		return true
	}
	if len(o) == 0 {
		return after(x, start(x), 0).Cmp(weight) <= 0
	}
	if !atMost(steps(x, start(x), nil, o[0]), 0, weight) {
		return false
	}
	for i, values := range p.Frames {
		for _, v := range values {
			q := pointOf(v)
			if i < len(o)-1 && !atMost(steps(x, v.History, &q, o[i+1]), i+1, valueOf(v.Left)) {
				return false
			}
			if i == len(o)-1 && atEnd(x, q) && product(valueOf(modelOf(x, q).End[q.State]), after(x, v.History, 0)).Cmp(valueOf(v.Left)) > 0 {
				return false
			}
		}
	}
	return true
}
