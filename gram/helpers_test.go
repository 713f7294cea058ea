package gram_test

import (
	"math"
	"math/big"
	"math/rand"
	"slices"
	"strconv"
	"strings"
	"testing"

	"earshot/api"
	"earshot/frac"
	"earshot/gram"
)

// bigOf returns the number with the given digits.
func bigOf(digits []uint32) *big.Int {
	n := new(big.Int)
	for i := len(digits) - 1; i >= 0; i-- {
		n.Lsh(n, 32).Or(n, big.NewInt(int64(digits[i])))
	}
	return n
}

// valueOf returns the value of a, computed without the program.
func valueOf(a api.Frac) *big.Rat {
	n, d := bigOf(a.N), bigOf(a.D)
	if d.Sign() == 0 {
		d.SetInt64(1)
	}
	if a.Neg {
		n.Neg(n)
	}
	return new(big.Rat).SetFrac(n, d)
}

// isCanonical reports whether a is canonical, computed without the program.
func isCanonical(a api.Frac) bool {
	trimmed := func(digits []uint32) bool { return len(digits) == 0 || digits[len(digits)-1] != 0 }
	x := valueOf(a)
	whole := x.IsInt() && len(a.D) == 0
	return trimmed(a.N) && trimmed(a.D) && a.Neg == (x.Sign() < 0) && bigOf(a.N).CmpAbs(x.Num()) == 0 && (whole || bigOf(a.D).Cmp(x.Denom()) == 0 && !x.IsInt())
}

func isZero(a api.Frac) bool { return !a.Neg && len(a.N) == 0 && len(a.D) == 0 }

// f reads a number.
func f(t *testing.T, s string) api.Frac {
	t.Helper()
	a, e := frac.Parse(s)
	if e != api.OK {
		t.Fatalf("%s: error %d", s, e)
	}
	return a
}

// fs reads numbers with blanks between them.
func fs(t *testing.T, s string) []api.Frac {
	t.Helper()
	var list []api.Frac
	for _, x := range strings.Fields(s) {
		list = append(list, f(t, x))
	}
	return list
}

// ints reads integers with blanks between them.
func ints(t *testing.T, s string) []int {
	t.Helper()
	var list []int
	for _, x := range strings.Fields(s) {
		n, err := strconv.Atoi(x)
		if err != nil {
			t.Fatal(err)
		}
		list = append(list, n)
	}
	return list
}

// show writes integers with blanks between them.
func show(list []int) string {
	var words []string
	for _, n := range list {
		words = append(words, strconv.Itoa(n))
	}
	return strings.Join(words, " ")
}

// showRow writes numbers with blanks between them.
func showRow(list []api.Frac) string {
	var words []string
	for _, a := range list {
		words = append(words, valueOf(a).RatString())
	}
	return strings.Join(words, " ")
}

// showTable writes a table as the chapter does.
func showTable(t api.Table) string {
	var words []string
	for _, g := range t.List {
		words = append(words, show(g.Words)+": "+strconv.Itoa(g.N))
	}
	return strconv.Itoa(t.Order) + "/" + strconv.Itoa(t.Words) + " " + strings.Join(words, "; ")
}

func sameTables(a, b api.Table) bool { return showTable(a) == showTable(b) }

func isNothing(t api.Table) bool { return t.Order == 0 && t.Words == 0 && len(t.List) == 0 }

// counted is what Count returns, which must not fail.
func counted(t *testing.T, order, words int, sentences ...[]int) api.Table {
	t.Helper()
	table, e := gram.Count(order, words, sentences...)
	if e != api.OK {
		t.Fatalf("Count: error %d", e)
	}
	return table
}

// example is the table of the chapter's examples.
func example(t *testing.T) api.Table {
	t.Helper()
	return counted(t, 2, 2, []int{1, 2}, []int{1, 1})
}

// tableOf is a table with n-grams, written as the chapter does.
func tableOf(t *testing.T, order, words int, list string) api.Table {
	t.Helper()
	table := api.Table{Order: order, Words: words}
	for _, s := range strings.Split(list, ";") {
		if gram, n, ok := strings.Cut(s, ":"); ok {
			table.List = append(table.List, api.Gram{Words: ints(t, gram), N: ints(t, n)[0]})
		}
	}
	return table
}

func addedTo(t *testing.T, table api.Table, amount string) api.Language {
	t.Helper()
	return api.Language{Table: table, By: api.Added, Amount: f(t, amount)}
}

// fraction returns n / d, sometimes with common divisors and digits 0 at the end.
func fraction(r *rand.Rand, n, d int) api.Frac {
	times := 1 + r.Intn(3)
	a := api.Frac{N: []uint32{uint32(n * times)}, D: []uint32{uint32(d * times)}}
	if r.Intn(3) == 0 {
		a.N, a.D = append(a.N, 0), append(a.D, 0, 0)
	}
	return a
}

// randomDistribution returns n numbers that are a distribution. The first one is greater than 0.
func randomDistribution(t *testing.T, r *rand.Rand, n int) []api.Frac {
	t.Helper()
	list := []api.Frac{fraction(r, 1+r.Intn(4), 1+r.Intn(3))}
	for range n - 1 {
		list = append(list, fraction(r, r.Intn(4), 1+r.Intn(3)))
	}
	list, e := frac.Normalize(list)
	if e != api.OK {
		t.Fatalf("Normalize: error %d", e)
	}
	return list
}

// randomSentence returns a sentence of at most so many words.
func randomSentence(r *rand.Rand, words, most int) []int {
	s := make([]int, r.Intn(most+1))
	for i := range s {
		s[i] = 1 + r.Intn(words)
	}
	return s
}

// randomTable returns a valid table: of a few sentences, or with any n-grams, which may have been seen very often.
func randomTable(t *testing.T, r *rand.Rand, order, words int) api.Table {
	t.Helper()
	if r.Intn(2) == 0 {
		var sentences [][]int
		for range r.Intn(5) {
			sentences = append(sentences, randomSentence(r, words, 5))
		}
		return counted(t, order, words, sentences...)
	}
	table := api.Table{Order: order, Words: words}
	often := 1 + r.Intn(4)
	for _, gram := range listsOf(order, words) {
		if r.Intn(4) < often {
			n := 1 + r.Intn(4)
			if r.Intn(5) == 0 {
				n = 1<<30 - r.Intn(2)
			}
			table.List = append(table.List, api.Gram{Words: gram, N: n})
		}
	}
	return table
}

// listsOf returns all lists of n numbers from 0 to words, in order.
func listsOf(n, words int) [][]int {
	lists := [][]int{nil}
	for range n {
		var longer [][]int
		for _, list := range lists {
			for w := range words + 1 {
				longer = append(longer, append(slices.Clone(list), w))
			}
		}
		lists = longer
	}
	return lists
}

// sentencesOf returns all sentences of at most so many words.
func sentencesOf(words, most int) [][]int {
	var sentences [][]int
	for n := range most + 1 {
		for _, s := range listsOf(n, words-1) {
			for i := range s {
				s[i]++
			}
			sentences = append(sentences, s)
		}
	}
	return sentences
}

// randomLanguage returns a valid language model for a table.
func randomLanguage(t *testing.T, r *rand.Rand, table api.Table) api.Language {
	t.Helper()
	l := api.Language{Table: table, By: api.Smoothing(1 + r.Intn(4))}
	switch l.By {
	case api.Added:
		l.Amount = fraction(r, 1+r.Intn(9), 1+r.Intn(4))
	case api.Mixed:
		l.Mix = randomDistribution(t, r, table.Order+1)
	case api.Discounted:
		d := 2 + r.Intn(4)
		l.Amount = fraction(r, 1+r.Intn(d-1), d)
	}
	return l
}

// randomHistory returns a history.
func randomHistory(r *rand.Rand, t api.Table) []int {
	h := make([]int, t.Order-1)
	for i := range h {
		h[i] = r.Intn(t.Words + 1)
	}
	return h
}

// randomClasses returns classes 1 to n of so many words; each class has a word if there are enough.
func randomClasses(t *testing.T, r *rand.Rand, words, n int) api.Classes {
	t.Helper()
	c := api.Classes{Of: make([]int, words), In: make([]api.Frac, words)}
	members := map[int][]int{}
	for i := range words {
		c.Of[i] = 1 + r.Intn(n)
		if i < n {
			c.Of[i] = i + 1
		}
		members[c.Of[i]] = append(members[c.Of[i]], i)
	}
	for class := 1; class <= n; class++ {
		list := members[class]
		if len(list) == 0 {
			continue
		}
		for k, weight := range randomDistribution(t, r, len(list)) {
			c.In[list[k]] = weight
		}
	}
	return c
}

// randomGrammar returns a valid grammar whose sentences may end after each nonterminal.
func randomGrammar(t *testing.T, r *rand.Rand) api.Grammar {
	t.Helper()
	g := api.Grammar{Labels: 1 + r.Intn(3), Words: 1 + r.Intn(2)}
	for from := range g.Labels {
		rules := make([]api.Production, 1+r.Intn(4))
		for i, weight := range randomDistribution(t, r, len(rules)) {
			rules[i] = api.Production{From: from, Word: r.Intn(g.Words + 1), Weight: weight}
			if rules[i].Word > 0 {
				rules[i].To = r.Intn(g.Labels)
			}
		}
		g.Rules = append(g.Rules, rules...)
	}
	r.Shuffle(len(g.Rules), func(i, j int) { g.Rules[i], g.Rules[j] = g.Rules[j], g.Rules[i] })
	return g
}

// smoothings returns a language model of each smoothing for a table.
func smoothings(t *testing.T, table api.Table) []api.Language {
	t.Helper()
	part := "1/" + strconv.Itoa(table.Order+1) + " "
	return []api.Language{
		addedTo(t, table, "1/3"), {Table: table, By: api.Mixed, Mix: fs(t, strings.Repeat(part, table.Order+1))},
		{Table: table, By: api.Discounted, Amount: f(t, "2/3")}, {Table: table, By: api.Typed},
	}
}

// expect checks a number.
func expect(t *testing.T, what string, got api.Frac, e api.Errno, want *big.Rat) {
	t.Helper()
	if e != api.OK || !isCanonical(got) || valueOf(got).Cmp(want) != 0 {
		t.Fatalf("%s: %v and error %d, not %s", what, got, e, want.RatString())
	}
}

// sum returns the sum of numbers.
func sum(list []api.Frac) *big.Rat {
	all := new(big.Rat)
	for _, a := range list {
		all.Add(all, valueOf(a))
	}
	return all
}

func isOne(x *big.Rat) bool { return x.Cmp(big.NewRat(1, 1)) == 0 }

// times returns a number n times.
func times(n, w int) []int { return slices.Repeat([]int{w}, n) }

// edgeInts returns numbers at the edges of the ranges of this layer.
func edgeInts() []int {
	list := []int{0, 1, 2, 3, 4, 5, 60, 61, 500, 501, 2000, 2001, 20000, 20001, 1 << 30, 1<<30 + 1, math.MaxInt}
	for _, n := range slices.Clone(list) {
		list = append(list, -n)
	}
	return append(list, math.MinInt)
}

// outside returns the edges that are not from least to greatest.
func outside(least, greatest int) []int {
	return slices.DeleteFunc(edgeInts(), func(n int) bool { return least <= n && n <= greatest })
}
