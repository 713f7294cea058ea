package decode

import (
	"cmp"
	"slices"
	"sort"

	"earshot/api"
	"earshot/frac"
	"earshot/numbers"
)

// lead is a hypothesis to which a point will be added.
type lead struct {
	trace  *trace
	weight numbers.Product
	begins bool // whether this point begins a word
}

// best is the rule of the search: the better hypothesis is kept.
type best struct{}

func (best) along(x lead, factors ...*numbers.Factor) lead {
	x.weight = x.weight.Times(factors...)
	return x
}

func (best) leave(x lead, end *numbers.Factor, g door) lead {
	return lead{x.trace, x.weight.Times(end), g.word == 0}
}

func (best) meet(a, b lead) lead {
	if b.beats(a) {
		return b
	}
	return a
}

// beats reports whether a is better than another lead to the same place or door.
func (a lead) beats(b lead) bool {
	if order := a.weight.Compare(b.weight); order != 0 {
		return order > 0
	}
	return cmp.Or(cmp.Compare(a.trace.order(), b.trace.order()), compareBools(a.begins, b.begins)) < 0
}

// token is a lead that has come to a place.
type token struct {
	place place
	lead
}

func (x token) point() api.Point { return x.place.point(x.begins) }

// tokens are those of one frame.
type tokens []token

// earlier reports whether the trace to a token comes before the trace to another one.
func (l tokens) earlier(i, j int) bool {
	a, b := l[i], l[j]
	return cmp.Or(cmp.Compare(a.trace.order(), b.trace.order()), comparePoints(a.point(), b.point())) < 0
}

// better reports whether a token has a greater weight than another one, or the same weight and an earlier trace.
func (l tokens) better(i, j int) bool {
	if order := l[i].weight.Compare(l[j].weight); order != 0 {
		return order > 0
	}
	return l.earlier(i, j)
}

// search is a search after some frames. It is never changed: each step makes a new one.
type search struct {
	network *network
	width   int
	ratio   *numbers.Factor
	now     frame[lead] // with the leads on from the tokens of the last frame
	frames  int
	bound   numbers.Product
	dropped int
}

// begin returns the search for a recording that has no frames yet.
func begin(t api.Task, b api.Beam) search {
	return search{network: build(t), width: b.Width, ratio: numbers.FactorOf(frac.Canon(b.Ratio)), now: before(lead{weight: numbers.One(), begins: true})}
}

// feed returns the search after more frames.
func (s search) feed(symbols []int) (search, api.Errno) {
	for _, symbol := range symbols {
		places, e := advance(s.network, s.now, symbol, best{})
		if e != api.OK {
			return search{}, e
		}
		s = s.settle(places)
	}
	return s, api.OK
}

// settle returns the search after one more frame, at which there are leads to these places.
func (s search) settle(places map[place]lead) search {
	list := make(tokens, 0, len(places))
	for p, x := range places {
		list = append(list, token{p, x})
	}
	kept, dropped := s.choose(list)
	if len(dropped) > 0 && dropped[0].weight.Compare(s.bound) > 0 {
		s.bound = dropped[0].weight
	}
	s.frames, s.dropped = s.frames+1, s.dropped+len(dropped)
	kept.unite()
	s.now = after(s.network, kept.follow(), best{})
	return s
}

// choose puts tokens in order, the best ones first, and returns those that the beam keeps, and those that it drops.
func (s search) choose(list tokens) (kept, dropped tokens) {
	sort.Slice(list, list.better)
	n := 0
choice:
	for _, x := range list {
		switch {
		case n == s.width, x.weight.Compare(list[0].weight.Times(s.ratio)) < 0:
			break choice
		}
		n++
	}
	return list[:n], list[n:]
}

// unite makes equal weights of tokens that are in order the same product. What they are multiplied by is then all that has to be compared at later frames.
func (l tokens) unite() {
	for i := 1; i < len(l); i++ {
		if l[i].weight.Compare(l[i-1].weight) == 0 {
			l[i].weight = l[i-1].weight
		}
	}
}

// follow adds the points of tokens to their traces, and returns the leads on from there.
func (l tokens) follow() map[place]lead {
	sort.Slice(l, l.earlier)
	places := make(map[place]lead, len(l))
	for i, x := range l {
		places[x.place] = lead{trace: &trace{x.trace, x.point(), i}, weight: x.weight}
	}
	return places
}

// report returns the report for the frames so far.
func (s search) report() api.Report {
	r := api.Report{Bound: s.bound.Exact(), Dropped: s.dropped}
	var result lead
	for _, x := range ends(s.network, s.now, best{}) {
		if !r.Found || x.beats(result) {
			r.Found, result = true, x
		}
	}
	if r.Found {
		r.Trace, r.Words, r.Weight = result.trace.points(), result.trace.words(), result.weight.Exact()
		r.Proved = result.weight.Compare(s.bound) >= 0
	}
	return r
}

// sure returns the words with which the words of all tokens begin.
func (s search) sure() []int {
	var common []int
	known := false
	for _, x := range s.now.places {
		words := x.trace.words()
		if !known {
			common, known = words, true
		}
		common = common[:shared(common, words)]
	}
	return slices.Clip(common)
}

// shared returns how many elements at the beginning of two lists are equal.
func shared(a, b []int) int {
	n := 0
	for n < min(len(a), len(b)) && a[n] == b[n] {
		n++
	}
	return n
}
