package gram

import (
	"slices"

	"earshot/api"
	"earshot/checks"
	"earshot/frac"
	"earshot/lists"
	"earshot/numbers"
	"earshot/whole"
)

// CheckGrammar returns the error of a grammar: ErrLong if it has too many rules, ErrArg if it is not valid.
func CheckGrammar(g api.Grammar) api.Errno {
	if len(g.Rules) > api.MaxSteps {
		return api.ErrLong
	}
	return checks.Argument(whole.Within(g.Labels, 1, api.MaxLabels) && whole.Within(g.Words, 1, api.MaxWords) && areProductions(g))
}

// areProductions reports whether the rules of a grammar are as defined, for its nonterminals and its words.
func areProductions(g api.Grammar) bool {
	weights := make([][]api.Frac, g.Labels)
	for _, r := range g.Rules {
		ends := r.Word == 0 && r.To == 0
		goesOn := whole.Within(r.Word, 1, g.Words) && whole.Within(r.To, 0, g.Labels-1)
		if !ends && !goesOn || !whole.Within(r.From, 0, g.Labels-1) {
			return false
		}
		weights[r.From] = append(weights[r.From], r.Weight)
	}
	return !slices.ContainsFunc(weights, func(l []api.Frac) bool { return !frac.Distribution(l) })
}

// Says returns the weight of a sentence.
func Says(g api.Grammar, s []int) (api.Frac, api.Errno) {
	if e := checkSaying(g, s); e != api.OK {
		return api.Frac{}, e
	}
	said := marked(s)
	c := chartOf(g, said)
	return numbers.Quotient(c.rest(said, frac.Sum)[0][0], numbers.Power(c.factor, len(said))), api.OK
}

// Best returns the best derivation of a sentence and its weight; ErrNone if there is none.
func Best(g api.Grammar, s []int) ([]int, api.Frac, api.Errno) {
	if e := checkSaying(g, s); e != api.OK {
		return nil, api.Frac{}, e
	}
	said := marked(s)
	c := chartOf(g, said)
	rest := c.rest(said, numbers.Greatest)
	if frac.Sign(rest[0][0]) == 0 {
		return nil, api.Frac{}, api.ErrNone
	}
	// The first one of the best rules for each word makes the derivation the first one of the best.
	var best []int
	at := 0
	for i, w := range said {
		n := frac.Best(c.products(at, w, rest[i+1])...)
		best = append(best, c.ways[way{at, w}][n])
		at = g.Rules[best[i]].To
	}
	return best, weightOf(g, best), api.OK
}

// Derive returns the sentence of a derivation and its weight; ErrArg also if the list is no derivation.
func Derive(g api.Grammar, rules []int) ([]int, api.Frac, api.Errno) {
	if e := checks.First(CheckGrammar(g), checks.Argument(whole.AllWithin(rules, 0, len(g.Rules)-1) && len(rules) > 0)); e != api.OK {
		return nil, api.Frac{}, e
	}
	var s []int
	at, last := 0, len(rules)-1
	for i, n := range rules {
		r := g.Rules[n]
		if r.From != at || (r.Word == 0) != (i == last) {
			return nil, api.Frac{}, api.ErrArg
		}
		if i < last {
			s = append(s, r.Word)
		}
		at = r.To
	}
	return s, weightOf(g, rules), api.OK
}

// checkSaying returns the error of a grammar and of a sentence of its words.
func checkSaying(g api.Grammar, s []int) api.Errno {
	return checks.First(CheckGrammar(g), checkSentence(s, g.Words))
}

// marked returns a sentence with the mark behind it, which stands for the rule that ends it.
func marked(s []int) []int { return slices.Concat(s, []int{0}) }

// weightOf returns the weight of a derivation.
func weightOf(g api.Grammar, rules []int) api.Frac {
	return numbers.ProductOf(lists.Map(rules, func(n int) api.Frac { return g.Rules[n].Weight }))
}

// way says which rules can be used: those of a nonterminal for a word, or for the mark.
type way struct {
	from int
	word int
}

// chart has the rules of a grammar for what is said, by their ways, in order. Their weights are multiplied by a factor so that they are integers.
type chart struct {
	rules   []api.Production
	weights []api.Frac
	factor  api.Frac
	labels  int
	ways    map[way][]int
}

func chartOf(g api.Grammar, said []int) chart {
	ways := map[way][]int{}
	weights := make([]api.Frac, len(g.Rules))
	for n, r := range g.Rules {
		if slices.Contains(said, r.Word) {
			w := way{r.From, r.Word}
			ways[w] = append(ways[w], n)
			weights[n] = r.Weight
		}
	}
	factor := numbers.Denominator(weights)
	return chart{g.Rules, numbers.Multiply(weights, factor), factor, g.Labels, ways}
}

// rest returns, for each place in a marked sentence, also behind it, the weights with which the nonterminals lead to its end from there on: what join makes of the weights of all ways.
func (c chart) rest(said []int, join func(l ...api.Frac) api.Frac) [][]api.Frac {
	rows := make([][]api.Frac, len(said)+1)
	rows[len(said)] = []api.Frac{frac.Of(1)} // rules that end a sentence have the To 0
	for i := len(said) - 1; i >= 0; i-- {
		for from := range c.labels {
			rows[i] = append(rows[i], join(c.products(from, said[i], rows[i+1])...))
		}
	}
	return rows
}

// products returns, for each rule of a way, its weight times the one in the row of its To.
func (c chart) products(from, word int, row []api.Frac) []api.Frac {
	return lists.Map(c.ways[way{from, word}], func(n int) api.Frac { return numbers.Times(c.weights[n], row[c.rules[n].To]) })
}
