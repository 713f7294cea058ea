// Tests of P6.5.

package gram_test

import (
	"math/big"
	"math/rand"
	"slices"
	"strings"
	"testing"

	"earshot/api"
	"earshot/frac"
	"earshot/gram"
)

// grammar is a grammar with rules that are written as From Word To Weight, with semicolons between them.
func grammar(t *testing.T, labels, words int, rules string) api.Grammar {
	t.Helper()
	g := api.Grammar{Labels: labels, Words: words}
	for _, s := range strings.Split(rules, ";") {
		if x := strings.Fields(s); len(x) > 0 {
			n := ints(t, strings.Join(x[:3], " "))
			g.Rules = append(g.Rules, api.Production{From: n[0], Word: n[1], To: n[2], Weight: f(t, x[3])})
		}
	}
	return g
}

// repeating is the grammar of the chapter's examples.
func repeating(t *testing.T) api.Grammar {
	t.Helper()
	return grammar(t, 1, 1, "0 1 0 1/2; 0 0 0 1/2")
}

func TestGrammarExamples(t *testing.T) {
	g := repeating(t)
	says, e1 := gram.Says(g, []int{1, 1})
	best, weight, e2 := gram.Best(g, []int{1})
	s, derived, e3 := gram.Derive(g, []int{0, 0, 1})
	if e1 != api.OK || e2 != api.OK || e3 != api.OK || showRow([]api.Frac{says, weight, derived}) != "1/8 1/4 1/8" || show(best) != "0 1" || show(s) != "1 1" {
		t.Errorf("%v and %v, %s", best, s, showRow([]api.Frac{says, weight, derived}))
	}
}

func TestSays(t *testing.T) {
	// Words 1 lead to 1 in two ways, words 2 back to 0; 1 may end.
	g := grammar(t, 2, 2, "0 1 1 1/2; 0 1 1 1/3; 0 2 0 1/6; 1 0 0 2/5; 1 2 0 3/5; 1 1 0 0")
	for _, c := range []struct{ s, says, best, weight string }{
		{"", "0", "", "0"}, {"1", "1/3", "0 3", "1/5"}, {"2", "0", "", "0"}, {"2 1", "1/18", "2 0 3", "1/30"}, {"1 2 1", "1/6", "0 4 0 3", "3/50"}, {"1 1", "0", "", "0"}, {"1 1 1", "0", "", "0"},
	} {
		says, e := gram.Says(g, ints(t, c.s))
		if e != api.OK || showRow([]api.Frac{says}) != c.says {
			t.Errorf("%s: %s and error %d", c.s, showRow([]api.Frac{says}), e)
		}
		best, weight, e := gram.Best(g, ints(t, c.s))
		if (e == api.ErrNone) != (c.says == "0") || show(best) != c.best || showRow([]api.Frac{weight}) != c.weight {
			t.Errorf("%s: %v with %s and error %d", c.s, best, showRow([]api.Frac{weight}), e)
		}
	}
}

// TestEquallyGood checks which one of several best derivations is returned.
func TestEquallyGood(t *testing.T) {
	for _, c := range []struct {
		g       api.Grammar
		s, best string
	}{
		{grammar(t, 2, 1, "0 0 0 1/3; 0 1 1 1/3; 0 1 0 1/3; 1 0 0 1/3; 1 1 1 2/3"), "1", "1 3"},
		{grammar(t, 1, 1, "0 1 0 1/4; 0 0 0 1/4; 0 1 0 1/4; 0 0 0 1/4"), "1 1", "0 0 1"},
		// The weights of 0 3 and of 1 2 are both 1/8.
		{grammar(t, 3, 1, "0 1 2 1/2; 0 1 1 1/4; 1 0 0 1/2; 2 0 0 1/4; 2 1 2 3/4; 1 1 1 1/2; 0 0 0 1/4"), "1", "0 3"},
		{grammar(t, 3, 1, "0 1 1 1/4; 0 1 2 1/2; 1 0 0 1/2; 2 0 0 1/4; 2 1 2 3/4; 1 1 1 1/2; 0 0 0 1/4"), "1", "0 2"},
		// A rule that comes first, but cannot be followed.
		{grammar(t, 2, 2, "0 1 1 1/2; 0 1 0 1/4; 0 0 0 1/4; 1 2 1 1"), "1", "1 2"},
		{grammar(t, 2, 2, "0 1 1 1/2; 0 1 0 1/4; 0 0 0 1/4; 1 2 1 1; 1 0 0 0"), "1", "1 2"},
	} {
		if e := gram.CheckGrammar(c.g); e != api.OK {
			t.Fatalf("CheckGrammar: error %d", e)
		}
		if best, _, e := gram.Best(c.g, ints(t, c.s)); e != api.OK || show(best) != c.best {
			t.Errorf("%+v: %v and error %d", c.g, best, e)
		}
	}
}

// TestGrammars compares with all derivations, and checks that the weights of many sentences together are at most 1.
func TestGrammars(t *testing.T) {
	r := rand.New(rand.NewSource(11))
	for range 200 {
		g := randomGrammar(t, r)
		if e := gram.CheckGrammar(g); e != api.OK {
			t.Fatalf("CheckGrammar: error %d", e)
		}
		all := new(big.Rat)
		for _, s := range sentencesOf(g.Words, 4) {
			all = plus(all, expectDerivations(t, g, s))
		}
		if all.Cmp(whole(1)) > 0 {
			t.Fatalf("%v: all sentences together have the weight %s", g, all)
		}
	}
}

// expectDerivations compares with all derivations of a sentence, and returns its weight.
func expectDerivations(t *testing.T, g api.Grammar, s []int) *big.Rat {
	t.Helper()
	all, best := new(big.Rat), derivation{weight: new(big.Rat)}
	for _, d := range derivations(g, 0, s) {
		all = plus(all, d.weight)
		if d.weight.Cmp(best.weight) > 0 {
			best = d
		}
		said, weight, e := gram.Derive(g, d.rules)
		expect(t, "Derive", weight, e, d.weight)
		if !slices.Equal(said, s) {
			t.Fatalf("Derive: %v, not %v", said, s)
		}
	}
	says, e := gram.Says(g, s)
	expect(t, "Says", says, e, all)
	rules, weight, e := gram.Best(g, s)
	if all.Sign() == 0 {
		if e != api.ErrNone || len(rules) > 0 || !isZero(weight) {
			t.Fatalf("%v in %v: %v and error %d", s, g, rules, e)
		}
		return all
	}
	expect(t, "Best", weight, e, best.weight)
	if !slices.Equal(rules, best.rules) || valueOf(weight).Cmp(valueOf(says)) > 0 {
		t.Fatalf("%v in %v: %v, not %v", s, g, rules, best.rules)
	}
	return all
}

// wrongGrammars returns grammars that are not valid.
func wrongGrammars(t *testing.T) []api.Grammar {
	t.Helper()
	list := []api.Grammar{
		{}, {Labels: 1, Words: 1}, {Labels: 60, Words: 2000},
		grammar(t, 1, 1, "0 1 0 1/2"), grammar(t, 1, 1, "0 1 0 1/2; 0 0 0 1"), grammar(t, 1, 1, "0 1 0 2; 0 0 0 -1"), grammar(t, 1, 1, "0 1 0 1; 0 0 0 1"), grammar(t, 1, 1, "0 1 0 0; 0 0 0 0"),
		grammar(t, 2, 1, "0 0 0 1"), grammar(t, 2, 1, "1 0 0 1"), grammar(t, 2, 1, "0 0 0 1; 1 1 1 1/2; 1 1 0 1/3"), grammar(t, 2, 1, "0 0 0 1/2; 1 0 0 1/2"), grammar(t, 2, 1, "0 0 0 3/2; 1 0 0 1/2"),
		grammar(t, 2, 1, "0 0 1 1; 1 0 0 1"), grammar(t, 2, 1, "0 0 0 1; 1 0 1 1"), grammar(t, 2, 1, "0 0 1 0; 0 0 0 1; 1 0 0 1"),
	}
	for _, n := range outside(0, 1) {
		list = append(list, api.Grammar{Labels: 2, Words: 2, Rules: []api.Production{{Weight: f(t, "1")}, {From: 1, Weight: f(t, "1")}, {From: n}}})
		list = append(list, api.Grammar{Labels: 2, Words: 2, Rules: []api.Production{{Weight: f(t, "1")}, {From: 1, Weight: f(t, "1")}, {Word: 1, To: n}}})
		list = append(list, api.Grammar{Labels: 2, Words: 1, Rules: []api.Production{{Weight: f(t, "1")}, {From: 1, Weight: f(t, "1")}, {Word: n}}})
		list = append(list, api.Grammar{Labels: 2, Words: 1, Rules: []api.Production{{From: n, Weight: f(t, "1")}, {From: 1, Weight: f(t, "1")}}})
	}
	for _, n := range outside(1, 60) {
		list = append(list, api.Grammar{Labels: n, Words: 1, Rules: []api.Production{{Weight: f(t, "1")}}})
	}
	for _, n := range outside(1, 2000) {
		list = append(list, api.Grammar{Labels: 1, Words: n, Rules: []api.Production{{Weight: f(t, "1")}}})
	}
	return list
}

// expectNoGrammar checks the error of a grammar in all functions that take one.
func expectNoGrammar(t *testing.T, g api.Grammar, want api.Errno) {
	t.Helper()
	e := gram.CheckGrammar(g)
	says, e1 := gram.Says(g, nil)
	best, weight, e2 := gram.Best(g, nil)
	s, derived, e3 := gram.Derive(g, []int{0})
	if e != want || e1 != want || e2 != want || e3 != want || !isZero(says) || len(best) > 0 || !isZero(weight) || len(s) > 0 || !isZero(derived) {
		t.Errorf("%d rules, %d nonterminals, %d words: errors %d, %d, %d, %d", len(g.Rules), g.Labels, g.Words, e, e1, e2, e3)
	}
}

func TestCheckGrammar(t *testing.T) {
	for _, g := range []api.Grammar{repeating(t), grammar(t, 1, 2000, "0 0 0 1"), grammar(t, 1, 2000, "0 2000 0 1"), grammar(t, 2, 1, "1 1 1 1; 0 1 1 0; 0 0 0 1"), large(t)} {
		if e := gram.CheckGrammar(g); e != api.OK {
			t.Errorf("%+v: error %d", g, e)
		}
	}
	for _, g := range wrongGrammars(t) {
		expectNoGrammar(t, g, api.ErrArg)
		g.Rules = append(g.Rules, make([]api.Production, 501-len(g.Rules))...)
		expectNoGrammar(t, g, api.ErrLong)
	}
}

// large returns a grammar with as many nonterminals and rules as there can be, for one word.
func large(t *testing.T) api.Grammar {
	t.Helper()
	g := api.Grammar{Labels: 60, Words: 1}
	for n := range 500 {
		rule := api.Production{From: n % 60, Word: 1, To: (7*n + n/60) % 60, Weight: f(t, "1/8")}
		if n >= 480 {
			rule.Weight = f(t, "0")
		} else if n < 60 {
			rule.Word, rule.To = 0, 0
		}
		g.Rules = append(g.Rules, rule)
	}
	return g
}

func TestSayingErrors(t *testing.T) {
	g := grammar(t, 1, 3, "0 1 0 1/2; 0 3 0 1/4; 0 0 0 1/4")
	wrong := grammar(t, 1, 3, "0 1 0 1/2")
	type refused struct {
		g    api.Grammar
		s    []int
		want api.Errno
	}
	list := []refused{
		{g, times(501, 1), api.ErrLong}, {g, times(501, 9), api.ErrLong}, {wrong, times(501, 1), api.ErrLong}, {wrong, times(500, 1), api.ErrArg}, {api.Grammar{Rules: make([]api.Production, 501)}, []int{9}, api.ErrLong},
	}
	for _, n := range outside(1, 3) {
		list = append(list, refused{g, []int{n}, api.ErrArg}, refused{g, []int{1, n}, api.ErrArg}, refused{g, []int{n, 2}, api.ErrArg})
	}
	for _, c := range list {
		says, e1 := gram.Says(c.g, c.s)
		best, weight, e2 := gram.Best(c.g, c.s)
		if e1 != c.want || e2 != c.want || !isZero(says) || len(best) > 0 || !isZero(weight) {
			t.Errorf("%v: errors %d and %d", c.s, e1, e2)
		}
	}
	for _, s := range [][]int{{2}, append(times(499, 1), 2)} {
		says, e1 := gram.Says(g, s)
		best, weight, e2 := gram.Best(g, s)
		if e1 != api.OK || e2 != api.ErrNone || !isZero(says) || len(best) > 0 || !isZero(weight) {
			t.Errorf("%d words: errors %d and %d", len(s), e1, e2)
		}
	}
}

func TestDeriveErrors(t *testing.T) {
	g := grammar(t, 2, 2, "0 1 1 1/2; 0 2 0 1/4; 0 0 0 1/4; 1 0 0 1/3; 1 2 1 2/3; 1 1 0 0")
	for _, c := range []struct{ rules, s, weight string }{
		{"2", "", "1/4"}, {"0 3", "1", "1/6"}, {"1 1 0 4 4 3", "2 2 1 2 2", "1/216"}, {"0 5 2", "1 1", "0"}, {"0 5 0 5 1 2", "1 1 1 1 2", "0"},
	} {
		s, weight, e := gram.Derive(g, ints(t, c.rules))
		if e != api.OK || show(s) != c.s || showRow([]api.Frac{weight}) != c.weight {
			t.Errorf("%s: %v with %s and error %d", c.rules, s, showRow([]api.Frac{weight}), e)
		}
	}
	list := [][]int{nil, {}, {0}, {1}, {3}, {4}, {2, 2}, {0, 2}, {1, 3}, {0, 3, 3}, {0, 3, 2}, {2, 0, 3}, {3, 2}, {4, 3}, {0, 4}, {0, 4, 2}, {1, 1, 1}, {0, 5, 3}}
	for _, n := range outside(0, 5) {
		list = append(list, []int{n}, []int{n, 2}, []int{0, n}, []int{0, n, 3}, []int{1, 2, n})
	}
	for _, rules := range list {
		if s, weight, e := gram.Derive(g, rules); e != api.ErrArg || len(s) > 0 || !isZero(weight) {
			t.Errorf("%v: %v and error %d", rules, s, e)
		}
	}
	if s, weight, e := gram.Derive(api.Grammar{Rules: make([]api.Production, 501)}, []int{-1}); e != api.ErrLong || len(s) > 0 || !isZero(weight) {
		t.Errorf("a long grammar: error %d", e)
	}
}

// TestLongDerivations checks derivations with more rules than a sentence may have words, and than there are exponents.
func TestLongDerivations(t *testing.T) {
	g := grammar(t, 1, 2, "0 1 0 2/3; 0 2 0 1/7; 0 0 0 4/21")
	for _, n := range []int{99, 100, 101, 500, 501, 5000, 50001} {
		rules := slices.Concat(slices.Repeat([]int{0, 1, 0}, n/3), make([]int, n%3), []int{2})
		s, weight, e := gram.Derive(g, rules)
		ones := n - n/3
		want := by(by(power(ratio(2, 3), ones), power(ratio(1, 7), n/3)), ratio(4, 21))
		expect(t, "Derive", weight, e, want)
		if len(s) != n || s[0] != 1 || s[1] != 2 || s[n-1] != 1 {
			t.Errorf("%d words, not %d", len(s), n)
		}
	}
}

// TestLongSayings checks sentences with as many words as there can be, in the largest grammars.
func TestLongSayings(t *testing.T) {
	s := times(500, 1)
	says, e := gram.Says(repeating(t), s)
	expect(t, "Says", says, e, power(ratio(1, 2), 501))
	best, weight, e := gram.Best(repeating(t), s)
	expect(t, "Best", weight, e, power(ratio(1, 2), 501))
	if !slices.Equal(best, append(times(500, 0), 1)) {
		t.Errorf("%v", best)
	}
	g := large(t)
	says, e = gram.Says(g, s)
	expect(t, "Says", says, e, by(power(ratio(7, 8), 500), ratio(1, 8))) // each nonterminal ends with 1/8
	best, weight, e = gram.Best(g, s)
	expect(t, "Best", weight, e, power(ratio(1, 8), 501))
	if derived, again, e := gram.Derive(g, best); e != api.OK || !slices.Equal(derived, s) || frac.Cmp(again, weight) != 0 {
		t.Errorf("Derive: error %d", e)
	}
}
