package lattice

import (
	"container/heap"
	"iter"

	"earshot/api"
	"earshot/checks"
	"earshot/numbers"
	"earshot/whole"
)

// Best returns the first path in the order of paths; ErrNone if there is no path.
func Best(l api.Lattice, m api.Language) (api.Route, api.Errno) {
	if e := check(l, m); e != api.OK {
		return api.Route{}, e
	}
	for w := range build(l, m, noTerm).ways(1) {
		return w.route(l), api.OK
	}
	return api.Route{}, api.ErrNone
}

// Routes returns the first n paths in their order, or all of them if there are fewer.
func Routes(l api.Lattice, m api.Language, n int) ([]api.Route, api.Errno) {
	if e := checks.First(check(l, m), checks.Argument(whole.Within(n, 0, api.MaxPaths))); e != api.OK {
		return nil, e
	}
	var routes []api.Route
	for w := range build(l, m, noTerm).ways(n) {
		routes = append(routes, w.route(l))
	}
	return routes, api.OK
}

// onward is a way on from a spot to the end: an arc and the rest of the way, or only the mark if there is no rest.
type onward struct {
	weight numbers.Product
	arc    int
	rest   *onward
}

// route returns a way from the first spot as a route.
func (w *onward) route(l api.Lattice) api.Route {
	r := api.Route{Weight: w.weight.Exact()}
	for ; w.rest != nil; w = w.rest {
		r.Arcs = append(r.Arcs, w.arc)
	}
	r.Words = wordsOf(l, r.Arcs)
	return r
}

// source has the ways on from a spot, in the order of paths.
type source interface {
	// way returns the way on with an index, nil if there are not so many.
	way(index int) *onward
}

// router has the sources of all spots of a graph.
type router struct {
	graph
	sources []source
}

// ways yields the first n ways from the first spot, or all of them if there are fewer, in the order of paths.
func (g graph) ways(n int) iter.Seq[*onward] {
	r := &router{g, make([]source, len(g.spots))}
	for i, mark := range g.marks {
		if mark == nil {
			r.sources[i] = &fork{router: r, spot: i}
		} else {
			r.sources[i] = stop{&onward{weight: numbers.One().Times(mark)}}
		}
	}
	return func(yield func(*onward) bool) {
		for i := range n {
			if w := r.sources[0].way(i); w == nil || !yield(w) {
				return
			}
		}
	}
}

// stop is the source of a spot behind all frames.
type stop struct {
	only *onward
}

func (s stop) way(index int) *onward {
	if index > 0 {
		return nil
	}
	return s.only
}

// fork is the source of a spot from which steps lead on. It looks for a way only when it is asked for it.
type fork struct {
	router *router
	spot   int
	ways   []*onward // those that were asked for
	offers offers    // the next way of each step; the way that was taken last is still offered
}

func (f *fork) way(index int) *onward {
	for len(f.ways) <= index {
		f.renew()
		if len(f.offers) == 0 {
			return nil
		}
		f.take(f.offers[0].way)
	}
	return f.ways[index]
}

// renew replaces the way that was taken last by the next one of its step. At first it lets all steps offer a way.
func (f *fork) renew() {
	switch {
	case f.ways == nil:
		for _, s := range f.router.row(f.spot) {
			o := &offer{step: s}
			f.router.advance(o)
			heap.Push(&f.offers, o)
		}
	case len(f.offers) > 0 && f.router.advance(f.offers[0]):
		heap.Fix(&f.offers, 0)
	case len(f.offers) > 0:
		heap.Pop(&f.offers)
	}
}

// take adds a way. Equal weights become the same product, so that later ones need not be multiplied to be compared.
func (f *fork) take(w *onward) {
	if n := len(f.ways); n > 0 && f.ways[n-1].weight.Compare(w.weight) == 0 {
		w.weight = f.ways[n-1].weight
	}
	f.ways = append(f.ways, w)
}

// advance lets a step offer its next way. It is false if there is none.
func (r *router) advance(o *offer) bool {
	rest := r.sources[o.step.to].way(o.index)
	if rest == nil {
		return false
	}
	o.index++
	o.way = &onward{rest.weight.Times(o.step.weight), o.step.arc, rest}
	if o.step.arc == noArc {
		o.way.arc, o.way.rest = rest.arc, rest.rest
	}
	return true
}

// offer is what a step offers: a way that begins with it.
type offer struct {
	step  step
	way   *onward
	index int // of the rest of the next way
}

// offers are a heap: the first one is the first way in the order of paths.
type offers []*offer

func (l offers) Len() int { return len(l) }

func (l offers) Less(i, j int) bool {
	a, b := l[i].way, l[j].way
	if order := a.weight.Compare(b.weight); order != 0 {
		return order > 0
	}
	return a.arc < b.arc
}

func (l offers) Swap(i, j int) { l[i], l[j] = l[j], l[i] }

func (l *offers) Push(x any) { *l = append(*l, x.(*offer)) }

func (l *offers) Pop() any {
	last := len(*l) - 1
	x := (*l)[last]
	*l = (*l)[:last]
	return x
}
