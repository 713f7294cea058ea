package gram

import (
	"earshot/api"
	"earshot/frac"
	"earshot/numbers"
)

// smoothing gives a weight to each number that may follow a history.
type smoothing interface {
	weight(history []int, w int) api.Frac
}

// smooth returns the smoothing of a valid language model. It knows only some histories, so that it need not count the whole table.
func smooth(l api.Language, histories ...[]int) smoothing {
	counted := count(l.Table, histories)
	top := level{counted, l.Table.Order, l.Table.Words}
	raise := func(x raised) smoothing { return typed{x} }
	switch l.By {
	case api.Added:
		return added{top, l.Amount}
	case api.Mixed:
		return mixed{top, l.Mix}
	case api.Discounted:
		raise = func(x raised) smoothing { return discounted{x, l.Amount, map[key]api.Frac{}} }
		fallthrough
	default: // api.Typed
		var s smoothing = even{l.Table.Words}
		for n := range l.Table.Order {
			s = raise(raised{level{counted, n + 1, l.Table.Words}, s})
		}
		return s
	}
}

// counts have what was seen after the ends of histories, of all lengths.
type counts map[key]*followers

// followers are what was seen after a history: how often each number, and how often all of them together.
type followers struct {
	times map[int]int
	total int
}

// count returns what was seen after the ends of some histories.
func count(t api.Table, histories [][]int) counts {
	c := counts{}
	for _, h := range histories {
		for n := range t.Order {
			c[keyOf(end(h, n))] = &followers{times: map[int]int{}}
		}
	}
	for _, g := range t.List {
		h, w := split(g.Words)
		for n := range t.Order {
			f := c[keyOf(end(h, n))]
			if f == nil {
				break // a history with a longer end would have this one too
			}
			f.times[w] += g.N
			f.total += g.N
		}
	}
	return c
}

// end returns the last n numbers of a history.
func end(history []int, n int) []int { return history[len(history)-n:] }

// even gives all numbers the same weight, after each history. It is the smoothing of the order 0.
type even struct {
	words int
}

func (x even) weight([]int, int) api.Frac { return numbers.Ratio(1, x.words+1) }

// level is what a smoothing knows: the counts of its order, also of lower ones. Of histories, which may be those of a higher order, it looks only at the ends.
type level struct {
	counts counts
	order  int
	words  int
}

// key returns the key of the end of a history that matters.
func (x level) key(history []int) key { return keyOf(end(history, x.order-1)) }

// after returns what was seen after a history.
func (x level) after(history []int) *followers { return x.counts[x.key(history)] }

// added adds a constant to all counts.
type added struct {
	level
	amount api.Frac
}

func (x added) weight(history []int, w int) api.Frac {
	f := x.after(history)
	return numbers.Quotient(
		frac.Add(frac.Of(f.times[w]), x.amount),
		frac.Add(frac.Of(f.total), frac.Mul(x.amount, frac.Of(x.words+1))))
}

// mixed adds estimates of all orders, each with its part of the mix.
type mixed struct {
	level
	mix []api.Frac
}

func (x mixed) weight(history []int, w int) api.Frac {
	estimate := numbers.Ratio(1, x.words+1)
	terms := []api.Frac{frac.Mul(x.mix[0], estimate)}
	for n := range x.order {
		if f := x.counts[keyOf(end(history, n))]; f.total > 0 {
			estimate = numbers.Ratio(f.times[w], f.total)
		}
		terms = append(terms, frac.Mul(x.mix[n+1], estimate))
	}
	return frac.Sum(terms...)
}

// raised is what smoothings know that need the weights of the order below theirs.
type raised struct {
	level
	lower smoothing
}

// typed adds the lower weights, as many times as there are different numbers after a history.
type typed struct {
	raised
}

func (x typed) weight(history []int, w int) api.Frac {
	f := x.after(history)
	below := x.lower.weight(history, w)
	if f.total == 0 {
		return below
	}
	kinds := len(f.times)
	return numbers.Quotient(
		frac.Add(frac.Of(f.times[w]), frac.Mul(frac.Of(kinds), below)),
		frac.Of(f.total+kinds))
}

// discounted takes a constant from the counts of all numbers that were seen after a history, and shares it among the others by their lower weights.
type discounted struct {
	raised
	amount api.Frac
	shares map[key]api.Frac // those that were already computed
}

func (x discounted) weight(history []int, w int) api.Frac {
	f := x.after(history)
	times := f.times[w]
	switch {
	case f.total == 0:
		return x.lower.weight(history, w)
	case len(f.times) == x.words+1:
		return numbers.Ratio(times, f.total)
	case times > 0:
		return numbers.Quotient(frac.Sub(frac.Of(times), x.amount), frac.Of(f.total))
	}
	return frac.Mul(x.share(history), x.lower.weight(history, w))
}

// share returns by what the lower weights of numbers are multiplied that were not seen after a history, unlike some others.
func (x discounted) share(history []int) api.Frac {
	k := x.key(history)
	if known, ok := x.shares[k]; ok {
		return known
	}
	f := x.after(history)
	// All lower weights have the sum 1, and those of what was seen need no shares: it was also seen after shorter histories.
	var seen []api.Frac
	for w := range f.times {
		seen = append(seen, x.lower.weight(history, w))
	}
	taken := numbers.Quotient(frac.Mul(x.amount, frac.Of(len(f.times))), frac.Of(f.total))
	x.shares[k] = numbers.Quotient(taken, frac.Sub(frac.Of(1), frac.Sum(seen...)))
	return x.shares[k]
}
