// Tests of P8.6: Find, Has.

package lattice_test

import (
	"fmt"
	"math/big"
	"math/rand"
	"slices"
	"strings"
	"testing"

	"earshot/api"
	"earshot/lattice"
)

// showHits writes hits.
func showHits(hits []api.Hit) string {
	var words []string
	for _, h := range hits {
		words = append(words, fmt.Sprintf("%d %d: %s", h.From, h.To, text(h.Weight)))
	}
	return strings.Join(words, ", ")
}

func TestTermsExamples(t *testing.T) {
	l, m := example(t), uniform(1)
	for _, c := range []struct{ term, hits, has string }{
		{"1", "0 1: 1/3, 0 2: 2/3, 1 2: 1/3", "1"},
		{"1 1", "0 2: 1/3", "1/3"},
		{"1 1 1", "", "0"},
	} {
		hits, e := lattice.Find(l, m, ints(t, c.term)...)
		has, e2 := lattice.Has(l, m, ints(t, c.term)...)
		if e != api.OK || e2 != api.OK || showHits(hits) != c.hits || text(has) != c.has {
			t.Errorf("%s: %s and %s, errors %d and %d", c.term, showHits(hits), text(has), e, e2)
		}
	}
}

// randomTerm returns a term, which is often one that paths have.
func randomTerm(r *rand.Rand, p paths, words int) []int {
	if len(p.list) > 0 && r.Intn(4) > 0 {
		said := wordsOf(p.lattice, p.list[r.Intn(len(p.list))])
		if len(said) > 0 {
			from := r.Intn(len(said))
			return said[from : from+1+r.Intn(len(said)-from)]
		}
	}
	term := make([]int, 1+r.Intn(3))
	for i := range term {
		term[i] = 1 + r.Intn(words)
	}
	return term
}

// TestTerms compares with all paths. Has is at most the sum of the hits, and at least each of them.
func TestTerms(t *testing.T) {
	r := rand.New(rand.NewSource(13))
	found, several, more := 0, 0, 0
	for range 800 {
		l, m := randomCase(t, r)
		p := pathsOf(t, l, m)
		term := randomTerm(r, p, m.Table.Words)
		hits, e := lattice.Find(l, m, term...)
		has, e2 := lattice.Has(l, m, term...)
		if len(p.list) == 0 {
			if e != api.ErrNone || e2 != api.ErrNone || hits != nil || !isZero(has) {
				t.Fatalf("%v in %s: errors %d and %d", term, show(l), e, e2)
			}
			continue
		}
		want, sum, most := hitsOf(t, p, term)
		if got := showHits(hits); e != api.OK || got != showHits(want) {
			t.Fatalf("%v in %s: %s, not %s, error %d", term, show(l), got, showHits(want), e)
		}
		for _, h := range hits {
			if !isCanonical(h.Weight) {
				t.Fatalf("%v in %s: %v", term, show(l), h.Weight)
			}
		}
		part := p.part(func(path []int) bool { return p.has(path, term) })
		expect(t, fmt.Sprintf("Has of %v in %s", term, show(l)), has, e2, part)
		if part.Cmp(sum) > 0 || part.Cmp(most) < 0 {
			t.Fatalf("%v in %s: %s, but %s", term, show(l), part.RatString(), showHits(hits))
		}
		found, several = found+min(len(hits), 1), several+min(len(hits)/2, 1)
		if len(term) > 1 && part.Cmp(sum) < 0 {
			more++
		}
	}
	if found < 300 || several < 100 || more < 5 {
		t.Errorf("%d terms were found, %d of them at several places, %d long ones several times in a path", found, several, more)
	}
}

// hitsOf returns the hits of a term, their sum, and the greatest of their weights.
func hitsOf(t *testing.T, p paths, term []int) (hits []api.Hit, sum, most *big.Rat) {
	t.Helper()
	sum, most = new(big.Rat), new(big.Rat)
	for from := range p.lattice.Frames {
		for to := range p.lattice.Frames + 1 {
			if w := p.part(func(path []int) bool { return p.hasAt(path, term, from, to) }); w.Sign() > 0 {
				hits = append(hits, api.Hit{From: from, To: to, Weight: f(t, w.RatString())})
				sum.Add(sum, w)
				if w.Cmp(most) > 0 {
					most = w
				}
			}
		}
	}
	return hits, sum, most
}

// TestTermsOfOneWord checks that the hits of one word are the sums of the parts of its arcs with the same bounds.
func TestTermsOfOneWord(t *testing.T) {
	r := rand.New(rand.NewSource(14))
	together := 0
	for range 300 {
		l, m := randomCase(t, r)
		parts, e := lattice.Parts(l, m)
		if e != api.OK {
			continue
		}
		word := 1 + r.Intn(m.Table.Words)
		sums := map[[2]int]*big.Rat{}
		for i, a := range l.Arcs {
			if w := valueOf(parts[i]); a.Word == word && w.Sign() > 0 {
				bounds := [2]int{a.From, a.To}
				if sums[bounds] == nil {
					sums[bounds] = new(big.Rat)
				} else {
					together++
				}
				sums[bounds].Add(sums[bounds], w)
			}
		}
		hits, e := lattice.Find(l, m, word)
		if e != api.OK || len(hits) != len(sums) {
			t.Fatalf("%d in %s: %s, error %d", word, show(l), showHits(hits), e)
		}
		for _, h := range hits {
			if want := sums[[2]int{h.From, h.To}]; want == nil || valueOf(h.Weight).Cmp(want) != 0 {
				t.Fatalf("%d in %s: %s", word, show(l), showHits(hits))
			}
		}
	}
	if together < 20 {
		t.Errorf("only %d arcs have the bounds of others", together)
	}
}

// TestRepeatedTerms checks terms that begin again within themselves.
func TestRepeatedTerms(t *testing.T) {
	for _, c := range []struct {
		words, term string
		hits        int
	}{
		{"1 1 1 1 1", "1 1", 4}, {"1 2 1 2 1 2 3", "1 2 1 2 3", 1}, {"1 1 2 1 1 1 2", "1 1 2", 2}, {"1 2 1 1 2 1 2 2", "1 2 1 2 2", 1}, {"1 2 1 2 1", "1 2 1", 2}, {"1 1 2 1 1 2 1 1 3", "1 1 2 1 1 3", 1}, {"1 2 1 2 2", "1 2 1 1", 0}, {"1 1 1 2", "1 1 2", 1}, {"2 1 2 1", "1 2 1 2", 0},
	} {
		l := api.Lattice{}
		for _, word := range ints(t, c.words) {
			l.Arcs = append(l.Arcs, api.Arc{From: l.Frames, To: l.Frames + 1, Word: word, Weight: f(t, "1/3")})
			l.Frames++
		}
		hits, e := lattice.Find(l, uniform(3), ints(t, c.term)...)
		has, e2 := lattice.Has(l, uniform(3), ints(t, c.term)...)
		if e != api.OK || e2 != api.OK || len(hits) != c.hits || text(has) != fmt.Sprint(min(c.hits, 1)) {
			t.Errorf("%s in %s: %s and %s", c.term, c.words, showHits(hits), text(has))
		}
	}
}

// TestManyTerms checks a long recording all of whose frames may be either of two words: the part of those where a term never stands follows a rule for each length.
func TestManyTerms(t *testing.T) {
	const frames = 200
	l, m := sausage(frames, f(t, "1/2"), f(t, "1/2")), uniform(2)
	// Of all lists of two words, those without 1 1 are as many as the Fibonacci numbers say.
	without, next := big.NewInt(1), big.NewInt(2)
	for range frames {
		without, next = next, new(big.Int).Add(without, next)
	}
	all := new(big.Int).Lsh(big.NewInt(1), frames)
	want := new(big.Rat).Sub(one, new(big.Rat).SetFrac(without, all))
	has, e := lattice.Has(l, m, 1, 1)
	expect(t, "Has", has, e, want)
	hits, e := lattice.Find(l, m, slices.Repeat([]int{2}, api.MaxSeek)...)
	if e != api.OK || len(hits) != frames-api.MaxSeek+1 {
		t.Fatalf("%d hits, error %d", len(hits), e)
	}
	for i, h := range hits {
		if h.From != i || h.To != i+api.MaxSeek {
			t.Fatalf("hit %d is from %d to %d", i, h.From, h.To)
		}
		expect(t, "a hit", h.Weight, e, valueOf(powerOf(t, "1/2", api.MaxSeek)))
	}
}

// TestTermsWithoutPaths checks lattices without paths, and without frames.
func TestTermsWithoutPaths(t *testing.T) {
	for _, l := range []api.Lattice{{Frames: 1}, without(t)} {
		hits, e := lattice.Find(l, uniform(1), 1)
		has, e2 := lattice.Has(l, uniform(1), 1)
		if e != api.ErrNone || e2 != api.ErrNone || hits != nil || !isZero(has) {
			t.Errorf("%s: errors %d and %d", show(l), e, e2)
		}
	}
	hits, e := lattice.Find(api.Lattice{}, uniform(1), 1)
	has, e2 := lattice.Has(api.Lattice{}, uniform(1), 1)
	if e != api.OK || e2 != api.OK || len(hits) != 0 || !isZero(has) {
		t.Errorf("no frames: %s and %s, errors %d and %d", showHits(hits), text(has), e, e2)
	}
}

func TestTermsErrors(t *testing.T) {
	refuse := func(what string, l api.Lattice, m api.Language, term []int, want api.Errno) {
		t.Helper()
		hits, e := lattice.Find(l, m, term...)
		has, e2 := lattice.Has(l, m, term...)
		if e != want || e2 != want || want != api.OK && (hits != nil || !isZero(has)) {
			t.Errorf("%s: errors %d and %d", what, e, e2)
		}
	}
	for _, l := range []api.Lattice{example(t), without(t)} {
		refuse("no words", l, uniform(1), nil, api.ErrArg)
		refuse("too many words", l, uniform(1), slices.Repeat([]int{1}, api.MaxSeek+1), api.ErrLong)
		refuse("too many words that there are not", l, uniform(1), make([]int, api.MaxSeek+1), api.ErrLong)
		refuse("too many words and no language model", l, api.Language{}, make([]int, api.MaxSeek+1), api.ErrLong)
		for _, w := range outside(1, 3) {
			refuse("a word", l, uniform(3), []int{1, w}, api.ErrArg)
		}
	}
	refuse("a word that arcs do not have", example(t), uniform(3), []int{3}, api.OK)
	refuse("all words", example(t), uniform(1), slices.Repeat([]int{1}, api.MaxSeek), api.OK)
	refuse("no lattice", api.Lattice{Frames: -1}, uniform(1), make([]int, api.MaxSeek+1), api.ErrLong)
	refuse("too many arcs and no words", full(api.MaxArcs+1), uniform(20), nil, api.ErrLong)
}
