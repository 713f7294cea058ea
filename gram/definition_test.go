// The definitions of the chapter, without any thought of how long they take.

package gram_test

import (
	"maps"
	"math/big"
	"slices"
	"strings"

	"earshot/api"
)

// gramsOf returns the n-grams of a sentence.
func gramsOf(order int, s []int) [][]int {
	marked := slices.Concat(times(order-1, 0), s, []int{0})
	var list [][]int
	for i := range len(s) + 1 {
		list = append(list, marked[i:i+order])
	}
	return list
}

// tallied returns a table with how often n-grams were seen, which are written without a sign between numbers.
func tallied(order, words int, seen map[string]int) api.Table {
	t := api.Table{Order: order, Words: words}
	for _, k := range slices.Sorted(maps.Keys(seen)) {
		g := api.Gram{N: seen[k]}
		for _, c := range k {
			g.Words = append(g.Words, int(c-'0'))
		}
		t.List = append(t.List, g)
	}
	return t
}

func joined(gram []int) string { return strings.ReplaceAll(show(gram), " ", "") }

// tableBy returns the table of sentences of at most 9 words of a vocabulary.
func tableBy(order, words int, sentences ...[]int) api.Table {
	seen := map[string]int{}
	for _, s := range sentences {
		for _, gram := range gramsOf(order, s) {
			seen[joined(gram)]++
		}
	}
	return tallied(order, words, seen)
}

// lowerOf returns the lower table, also that of a table of the order 1, and with any N.
func lowerOf(t api.Table) api.Table {
	if t.Order == 1 {
		return api.Table{Words: t.Words}
	}
	seen := map[string]int{}
	for _, g := range t.List {
		seen[joined(g.Words[1:])] += g.N
	}
	return tallied(t.Order-1, t.Words, seen)
}

// followed returns C(h), U(h), and c(h, w) for each w.
func followed(t api.Table, h []int) (int, int, []int) {
	all, kinds, each := 0, 0, make([]int, t.Words+1)
	for _, g := range t.List {
		if slices.Equal(g.Words[:t.Order-1], h) {
			each[g.Words[t.Order-1]] = g.N
			all += g.N
			kinds++
		}
	}
	return all, kinds, each
}

func ratio(a, b int) *big.Rat { return big.NewRat(int64(a), int64(b)) }

func whole(n int) *big.Rat { return ratio(n, 1) }

func plus(a, b *big.Rat) *big.Rat  { return new(big.Rat).Add(a, b) }
func minus(a, b *big.Rat) *big.Rat { return new(big.Rat).Sub(a, b) }
func by(a, b *big.Rat) *big.Rat    { return new(big.Rat).Mul(a, b) }
func per(a, b *big.Rat) *big.Rat   { return new(big.Rat).Quo(a, b) }

// weight returns P(h, w) for the smoothing of a language model, with a table of any order from 0 on.
func weight(l api.Language, t api.Table, h []int, w int) *big.Rat {
	if t.Order == 0 {
		return ratio(1, t.Words+1)
	}
	all, kinds, each := followed(t, h)
	amount := valueOf(l.Amount)
	switch l.By {
	case api.Added:
		return per(plus(whole(each[w]), amount), plus(whole(all), by(amount, whole(t.Words+1))))
	case api.Mixed:
		mixed := new(big.Rat)
		for j := range l.Mix {
			mixed = plus(mixed, by(valueOf(l.Mix[j]), estimate(t, j, h, w)))
		}
		return mixed
	}
	lower := func(v int) *big.Rat { return weight(l, lowerOf(t), h[min(1, len(h)):], v) }
	switch {
	case all == 0:
		return lower(w)
	case l.By == api.Typed:
		return per(plus(whole(each[w]), by(whole(kinds), lower(w))), whole(all+kinds))
	case kinds == t.Words+1:
		return ratio(each[w], all)
	case each[w] > 0:
		return per(minus(whole(each[w]), amount), whole(all))
	}
	rest := new(big.Rat)
	for v, n := range each {
		if n == 0 {
			rest = plus(rest, lower(v))
		}
	}
	return per(by(per(by(amount, whole(kinds)), whole(all)), lower(w)), rest)
}

// estimate returns the estimate of an order.
func estimate(t api.Table, order int, h []int, w int) *big.Rat {
	if order == 0 {
		return ratio(1, t.Words+1)
	}
	low := t
	for low.Order > order {
		low = lowerOf(low)
	}
	all, _, each := followed(low, h[len(h)-(order-1):])
	if all == 0 {
		return estimate(t, order-1, h, w)
	}
	return ratio(each[w], all)
}

// sentenceWeight returns the weight of a sentence.
func sentenceWeight(l api.Language, s []int) *big.Rat {
	product := whole(1)
	for _, gram := range gramsOf(l.Table.Order, s) {
		last := len(gram) - 1
		product = by(product, weight(l, l.Table, gram[:last], gram[last]))
	}
	return product
}

// power returns a to the power n.
func power(a *big.Rat, n int) *big.Rat {
	e := big.NewInt(int64(n))
	return new(big.Rat).SetFrac(new(big.Int).Exp(a.Num(), e, nil), new(big.Int).Exp(a.Denom(), e, nil))
}

// usual compares two sentences.
func usual(l api.Language, a, b []int) int {
	return power(sentenceWeight(l, a), len(b)+1).Cmp(power(sentenceWeight(l, b), len(a)+1))
}

// derivation is a derivation and its weight.
type derivation struct {
	rules  []int
	weight *big.Rat
}

// derivations returns all derivations of a sentence from a nonterminal on, in lexicographic order.
func derivations(g api.Grammar, from int, s []int) []derivation {
	var list []derivation
	for n, r := range g.Rules {
		weight := valueOf(r.Weight)
		switch {
		case r.From != from:
		case r.Word == 0 && len(s) == 0:
			list = append(list, derivation{[]int{n}, weight})
		case len(s) > 0 && r.Word == s[0]:
			for _, rest := range derivations(g, r.To, s[1:]) {
				list = append(list, derivation{append([]int{n}, rest.rules...), by(weight, rest.weight)})
			}
		}
	}
	return list
}
