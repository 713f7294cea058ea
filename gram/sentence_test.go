// Tests of P6.3.

package gram_test

import (
	"math/big"
	"math/rand"
	"strings"
	"testing"

	"earshot/api"
	"earshot/gram"
)

func TestSentenceExamples(t *testing.T) {
	l := addedTo(t, example(t), "1")
	for _, c := range []struct{ s, want string }{{"1 2", "1/10"}, {"", "1/5"}, {"1", "1/5"}, {"2 2", "1/40"}} {
		s, e := gram.Sentence(l, ints(t, c.s))
		if e != api.OK || showRow([]api.Frac{s}) != c.want {
			t.Errorf("%s: %s and error %d", c.s, showRow([]api.Frac{s}), e)
		}
	}
	for _, c := range []struct {
		a, b string
		want int
	}{{"1 1", "2 2", 1}, {"2 2", "1 1", -1}, {"1 2", "1 2", 0}, {"", "", 0}, {"1", "1 1", 1}, {"", "2", -1}} {
		if n, e := gram.Usual(l, ints(t, c.a), ints(t, c.b)); e != api.OK || n != c.want {
			t.Errorf("%s and %s: %d and error %d", c.a, c.b, n, e)
		}
	}
}

// TestSentences compares with the definition, and checks that the weights of many sentences together are at most 1.
func TestSentences(t *testing.T) {
	r := rand.New(rand.NewSource(7))
	for range 60 {
		table := randomTable(t, r, 1+r.Intn(3), 1+r.Intn(2))
		l := randomLanguage(t, r, table)
		all := new(big.Rat)
		for _, s := range sentencesOf(table.Words, 4) {
			got, e := gram.Sentence(l, s)
			want := sentenceWeight(l, s)
			expect(t, "Sentence", got, e, want)
			all = plus(all, want)
		}
		if all.Cmp(whole(1)) > 0 {
			t.Fatalf("%s by %d: all sentences together have the weight %s", showTable(table), l.By, all)
		}
	}
}

// TestUsual compares with the definition, and checks that Usual is an order.
func TestUsual(t *testing.T) {
	r := rand.New(rand.NewSource(8))
	for range 40 {
		table := randomTable(t, r, 1+r.Intn(3), 1+r.Intn(2))
		l := randomLanguage(t, r, table)
		var sentences [][]int
		for range 6 {
			sentences = append(sentences, randomSentence(r, table.Words, 6))
		}
		order := func(a, b []int) int {
			n, e := gram.Usual(l, a, b)
			if want := usual(l, a, b); e != api.OK || n != want {
				t.Fatalf("%s by %d: %v and %v: %d and error %d, not %d", showTable(table), l.By, a, b, n, e, want)
			}
			return n
		}
		for _, a := range sentences {
			for _, b := range sentences {
				if order(a, b) != -order(b, a) {
					t.Fatalf("%v and %v are in no order", a, b)
				}
				for _, c := range sentences {
					if order(a, b) > 0 && order(b, c) > 0 && order(a, c) <= 0 {
						t.Fatalf("%v, %v and %v are in no order", a, b, c)
					}
				}
			}
		}
	}
}

// TestEquallyUsual checks sentences of different lengths whose weights have the same mean.
func TestEquallyUsual(t *testing.T) {
	for order := 1; order <= 4; order++ {
		for _, l := range smoothings(t, api.Table{Order: order, Words: 2}) {
			for _, pair := range [][2]int{{0, 1}, {1, 4}, {6, 9}, {0, 500}, {499, 500}, {233, 376}} {
				if n, e := gram.Usual(l, times(pair[0], 1), times(pair[1], 2)); e != api.OK || n != 0 {
					t.Errorf("%d words and %d words by %d of the order %d: %d and error %d", pair[0], pair[1], l.By, order, n, e)
				}
			}
		}
	}
	// The mark and the word 1 have the same weight, 2 has another one.
	l := addedTo(t, tableOf(t, 1, 2, "0: 5; 1: 5; 2: 4"), "10000000/7")
	for _, c := range []struct {
		a, b []int
		want int
	}{{times(500, 1), times(499, 1), 0}, {times(500, 1), append(times(498, 1), 2), 1}, {append(times(499, 1), 2), append(times(498, 1), 2), 1}, {append(times(5, 1), 2), append(times(11, 1), 2, 2), 0}} {
		if n, e := gram.Usual(l, c.a, c.b); e != api.OK || n != c.want {
			t.Errorf("%d and %d words: %d and error %d", len(c.a), len(c.b), n, e)
		}
		if n, e := gram.Usual(l, c.b, c.a); e != api.OK || n != -c.want {
			t.Errorf("%d and %d words: %d and error %d", len(c.b), len(c.a), n, e)
		}
	}
}

// TestNearlyEquallyUsual checks sentences with as many words as there can be, whose means differ by very little. The powers that are compared have millions of digits.
func TestNearlyEquallyUsual(t *testing.T) {
	for _, amount := range []string{"1", "1" + strings.Repeat("0", 30) + "/7", strings.Repeat("9", 80)} {
		l := addedTo(t, tableOf(t, 1, 2, "0: 5; 1: 6; 2: 4"), amount)
		for _, c := range []struct {
			a, b []int
			want int
		}{
			{times(500, 1), times(499, 1), 1}, {times(500, 2), times(499, 2), -1}, {times(500, 1), append(times(499, 1), 2), 1}, {times(491, 1), append(times(498, 1), 2), 1},
			{times(499, 2), append(times(499, 2), 1), -1}, {times(366, 1), times(500, 1), -1},
		} {
			if n, e := gram.Usual(l, c.a, c.b); e != api.OK || n != c.want {
				t.Errorf("%d and %d words: %d and error %d", len(c.a), len(c.b), n, e)
			}
			if n, e := gram.Usual(l, c.b, c.a); e != api.OK || n != -c.want {
				t.Errorf("%d and %d words: %d and error %d", len(c.b), len(c.a), n, e)
			}
		}
	}
}

// TestLongSentences checks sentences with as many words as there can be.
func TestLongSentences(t *testing.T) {
	r := rand.New(rand.NewSource(9))
	var sentences [][]int
	for range 20 {
		sentences = append(sentences, append(randomSentence(r, 40, 200), randomSentence(r, 40, 200)...))
	}
	for _, l := range smoothings(t, counted(t, 4, 40, sentences...)) {
		s := make([]int, 500)
		for i := range s {
			s[i] = 1 + r.Intn(40)
		}
		copy(s[7:], sentences[3])
		got, e := gram.Sentence(l, s)
		product := whole(1)
		for _, step := range gramsOf(4, s) {
			w, e := gram.Weight(l, step[:3], step[3])
			if e != api.OK {
				t.Fatalf("Weight: error %d", e)
			}
			product = by(product, valueOf(w))
		}
		expect(t, "Sentence", got, e, product)
		if n, e := gram.Usual(l, s, s[:499]); e != api.OK || n == 0 {
			t.Errorf("Usual: %d and error %d", n, e)
		}
	}
}

func TestSentenceErrors(t *testing.T) {
	l := addedTo(t, api.Table{Order: 2, Words: 3}, "1")
	wrong := addedTo(t, api.Table{Order: 2, Words: 3}, "0")
	long := api.Language{Table: api.Table{List: make([]api.Gram, 20001)}}
	type refused struct {
		l    api.Language
		s    []int
		want api.Errno
	}
	list := []refused{{l, times(501, 1), api.ErrLong}, {l, times(501, 9), api.ErrLong}, {wrong, times(501, 1), api.ErrLong}, {wrong, times(500, 1), api.ErrArg}, {long, []int{9}, api.ErrLong}, {wrong, []int{9}, api.ErrArg}, {wrong, nil, api.ErrArg}}
	for _, n := range outside(1, 3) {
		list = append(list, refused{l, []int{n}, api.ErrArg}, refused{l, []int{1, n}, api.ErrArg}, refused{l, []int{n, 3}, api.ErrArg})
	}
	for _, c := range list {
		if got, e := gram.Sentence(c.l, c.s); e != c.want || !isZero(got) {
			t.Errorf("%v: error %d", c.s, e)
		}
		for _, pair := range [][2][]int{{c.s, {1}}, {{1}, c.s}, {c.s, c.s}, {c.s, nil}} {
			if n, e := gram.Usual(c.l, pair[0], pair[1]); e != c.want || n != 0 {
				t.Errorf("%v and %v: %d and error %d", pair[0], pair[1], n, e)
			}
		}
	}
	for _, pair := range [][2][]int{{{9}, times(501, 1)}, {times(501, 1), {9}}} {
		if n, e := gram.Usual(l, pair[0], pair[1]); e != api.ErrLong || n != 0 {
			t.Errorf("%v and %v: %d and error %d", pair[0], pair[1], n, e)
		}
	}
	for _, s := range [][]int{nil, times(500, 3)} {
		if _, e := gram.Sentence(l, s); e != api.OK {
			t.Errorf("%d words: error %d", len(s), e)
		}
		if _, e := gram.Usual(l, s, s); e != api.OK {
			t.Errorf("%d words: error %d", len(s), e)
		}
	}
}
