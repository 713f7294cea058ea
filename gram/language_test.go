// Tests of P6.2 and P6.6.

package gram_test

import (
	"math/big"
	"math/rand"
	"slices"
	"strconv"
	"strings"
	"testing"

	"earshot/api"
	"earshot/frac"
	"earshot/gram"
)

func TestLanguageExamples(t *testing.T) {
	x := example(t)
	low, _ := gram.Lower(x)
	mix := fs(t, "1/2 1/4 1/4")
	for _, c := range []struct {
		l             api.Language
		history, want string
	}{
		{addedTo(t, x, "1"), "1", "1/3 1/3 1/3"}, {addedTo(t, x, "1"), "2", "1/2 1/4 1/4"}, {addedTo(t, x, "1"), "0", "1/5 3/5 1/5"}, {addedTo(t, low, "5/2"), "", "1/3 11/27 7/27"},
		{api.Language{Table: x, By: api.Discounted, Amount: f(t, "1/2")}, "0", "1/6 3/4 1/12"}, {api.Language{Table: x, By: api.Discounted, Amount: f(t, "1/2")}, "1", "1/3 1/3 1/3"},
		{api.Language{Table: low, By: api.Discounted, Amount: f(t, "1/2")}, "", "1/3 1/2 1/6"},
		{api.Language{Table: x, By: api.Typed}, "2", "2/3 2/9 1/9"}, {api.Language{Table: low, By: api.Typed}, "", "1/3 4/9 2/9"},
		{api.Language{Table: x, By: api.Mixed, Mix: mix}, "0", "1/4 13/24 5/24"},
		// Without 2 0, nothing was seen after 2.
		{addedTo(t, tableOf(t, 2, 2, "0 1: 2"), "1"), "2", "1/3 1/3 1/3"}, {api.Language{Table: tableOf(t, 2, 2, "0 1: 2"), By: api.Discounted, Amount: f(t, "1/2")}, "2", "1/8 3/4 1/8"},
		{api.Language{Table: tableOf(t, 2, 2, "0 1: 2"), By: api.Typed}, "2", "1/9 7/9 1/9"}, {api.Language{Table: tableOf(t, 2, 2, "0 1: 2"), By: api.Mixed, Mix: mix}, "2", "1/6 2/3 1/6"},
	} {
		row, e := gram.Row(c.l, ints(t, c.history))
		if e != api.OK || showRow(row) != c.want {
			t.Errorf("%d after %s: %s and error %d, not %s", c.l.By, c.history, showRow(row), e, c.want)
		}
	}
	if h, e := gram.Next(addedTo(t, x, "1"), []int{1}, 2); e != api.OK || show(h) != "2" {
		t.Errorf("Next: %v and error %d", h, e)
	}
}

// TestEmptyTables checks that all numbers have the same weight if nothing was seen.
func TestEmptyTables(t *testing.T) {
	for order := 1; order <= 4; order++ {
		for _, l := range smoothings(t, api.Table{Order: order, Words: 3}) {
			row, e := gram.Row(l, times(order-1, 3))
			if e != api.OK || showRow(row) != "1/4 1/4 1/4 1/4" {
				t.Errorf("%d of the order %d: %s and error %d", l.By, order, showRow(row), e)
			}
		}
	}
}

// TestRows compares all weights with the definition.
func TestRows(t *testing.T) {
	r := rand.New(rand.NewSource(4))
	for range 250 {
		order := 1 + r.Intn(4)
		words := 1 + r.Intn(2)
		if order < 3 {
			words = 1 + r.Intn(4)
		}
		table := randomTable(t, r, order, words)
		for _, l := range append(smoothings(t, table), randomLanguage(t, r, table)) {
			if e := gram.Check(l); e != api.OK {
				t.Fatalf("Check: error %d", e)
			}
			for _, h := range listsOf(order-1, words) {
				expectRow(t, l, h)
			}
		}
	}
}

// expectRow compares the weights after a history with the definition, and checks that they are a distribution.
func expectRow(t *testing.T, l api.Language, h []int) {
	t.Helper()
	row, e := gram.Row(l, h)
	if e != api.OK || len(row) != l.Table.Words+1 || !isOne(sum(row)) {
		t.Fatalf("%s by %d after %v: %s and error %d", showTable(l.Table), l.By, h, showRow(row), e)
	}
	for w, got := range row {
		want := weight(l, l.Table, h, w)
		expect(t, "Row", got, e, want)
		alone, e := gram.Weight(l, h, w)
		expect(t, "Weight", alone, e, want)
		if want.Sign() <= 0 {
			t.Fatalf("%s by %d: %d after %v has the weight %s", showTable(l.Table), l.By, w, h, want)
		}
	}
}

// TestManySeen checks weights where lower tables have numbers greater than those of a table may be.
func TestManySeen(t *testing.T) {
	x := tableOf(t, 3, 2, "0 0 1: 1073741824; 1 0 1: 1073741824; 1 0 2: 1073741823; 2 0 1: 1073741824; 2 0 2: 1")
	if _, e := gram.Lower(x); e != api.ErrArg {
		t.Fatalf("Lower: error %d", e)
	}
	for _, l := range smoothings(t, x) {
		for _, h := range listsOf(2, 2) {
			expectRow(t, l, h)
		}
	}
}

// wrongModels returns language models that are not valid, with a valid table of the order 2.
func wrongModels(t *testing.T) []api.Language {
	t.Helper()
	x := example(t)
	mix := func(s string) api.Language { return api.Language{Table: x, By: api.Mixed, Mix: fs(t, s)} }
	zero := []api.Frac{{}}
	third := fs(t, "1/3 1/3 1/3")
	list := []api.Language{
		addedTo(t, x, "0"), addedTo(t, x, "-1"), addedTo(t, x, "-1/9"), {Table: x, By: api.Added, Amount: f(t, "1"), Mix: zero}, {Table: x, By: api.Added, Amount: f(t, "1"), Mix: third}, {Table: x, By: api.Added, Mix: third},
		mix(""), mix("1"), mix("1/2 1/2"), mix("1/4 1/4 1/4 1/4"), mix("1 0 0 0"), mix("0 1/2 1/2"), mix("0 0 1"), mix("1/2 1/2 1/2"), mix("1/2 1/4 1/5"), mix("2 -1 0"), mix("1/2 1 -1/2"), mix("-1 1 1"), mix("0 0 0"),
		{Table: x, By: api.Mixed, Mix: third, Amount: f(t, "1")}, {Table: x, By: api.Mixed, Mix: third, Amount: f(t, "-1")}, {Table: x, By: api.Mixed, Mix: third, Amount: f(t, "1/2")},
		{Table: x, By: api.Discounted, Amount: f(t, "1/2"), Mix: zero}, {Table: x, By: api.Discounted, Amount: f(t, "1/2"), Mix: third}, {Table: x, By: api.Discounted},
		{Table: x, By: api.Discounted, Amount: f(t, "1")}, {Table: x, By: api.Discounted, Amount: f(t, "3/2")}, {Table: x, By: api.Discounted, Amount: f(t, "-1/2")},
		{Table: x, By: api.Typed, Amount: f(t, "1")}, {Table: x, By: api.Typed, Amount: f(t, "-1/2")}, {Table: x, By: api.Typed, Mix: zero}, {Table: x, By: api.Typed, Mix: third},
		{}, {By: api.Typed}, {Table: x},
	}
	for _, n := range outside(1, 4) {
		list = append(list, api.Language{Table: x, By: api.Smoothing(n)}, api.Language{Table: x, By: api.Smoothing(n), Amount: f(t, "1/2")}, api.Language{Table: x, By: api.Smoothing(n), Mix: third})
		list = append(list, api.Language{Table: api.Table{Order: n, Words: 1}, By: api.Mixed}, api.Language{Table: api.Table{Order: n, Words: 1}, By: api.Mixed, Mix: third})
	}
	return list
}

// expectNoModel checks the error of a language model in all functions that take one, with arguments that are otherwise as they have to be, if it has a table.
func expectNoModel(t *testing.T, what string, l api.Language, want api.Errno) {
	t.Helper()
	h := make([]int, min(max(l.Table.Order, 1), 4)-1)
	e := gram.Check(l)
	w, e1 := gram.Weight(l, h, 0)
	row, e2 := gram.Row(l, h)
	next, e3 := gram.Next(l, h, 1)
	s, e4 := gram.Sentence(l, []int{1})
	n, e5 := gram.Usual(l, []int{1}, nil)
	c, e6 := gram.Classed(l, api.Classes{Of: []int{1}, In: []api.Frac{frac.Of(1)}}, h, 0)
	if errors := []api.Errno{e, e1, e2, e3, e4, e5, e6}; slices.Min(errors) != want || slices.Max(errors) != want {
		t.Errorf("%s by %d: errors %v", what, l.By, errors)
	}
	if !isZero(w) || len(row) > 0 || len(next) > 0 || !isZero(s) || n != 0 || !isZero(c) {
		t.Errorf("%s by %d: results beside errors", what, l.By)
	}
}

func TestCheck(t *testing.T) {
	x := example(t)
	for _, l := range []api.Language{
		addedTo(t, x, "1/1000000"), addedTo(t, x, "1000000"), {Table: x, By: api.Added, Amount: f(t, "1"), Mix: []api.Frac{}},
		{Table: x, By: api.Mixed, Mix: fs(t, "1 0 0")}, {Table: x, By: api.Mixed, Mix: fs(t, "1/100 99/100 0")}, {Table: x, By: api.Mixed, Mix: fs(t, "1 0 0"), Amount: api.Frac{Neg: true, N: []uint32{0}, D: []uint32{5}}},
		{Table: x, By: api.Discounted, Amount: f(t, "999999/1000000")}, {Table: x, By: api.Discounted, Amount: f(t, "1/1000000")}, {Table: x, By: api.Typed, Amount: api.Frac{N: []uint32{0, 0}}, Mix: []api.Frac{}},
	} {
		if e := gram.Check(l); e != api.OK {
			t.Errorf("%+v: error %d", l, e)
		}
		expectRow(t, l, []int{1})
	}
	for i, l := range wrongModels(t) {
		expectNoModel(t, "wrong model "+strconv.Itoa(i), l, api.ErrArg)
		l.Table.List = make([]api.Gram, 20001)
		expectNoModel(t, "wrong model with a long table", l, api.ErrLong)
	}
}

func TestHistoryErrors(t *testing.T) {
	type refused struct {
		order   int
		history []int
		w       int
	}
	list := []refused{{1, []int{0}, 1}, {2, nil, 1}, {2, []int{1, 1}, 1}, {3, []int{1}, 1}, {3, []int{1, 1, 1}, 1}, {4, []int{1, 1}, 1}, {4, times(4, 1), 1}, {4, times(100, 1), 1}}
	for _, n := range outside(0, 3) {
		list = append(list, refused{2, []int{n}, 1}, refused{4, []int{0, 1, n}, 1}, refused{4, []int{n, 1, 3}, 1})
	}
	for _, c := range list {
		for _, l := range smoothings(t, api.Table{Order: c.order, Words: 3}) {
			w, e1 := gram.Weight(l, c.history, c.w)
			row, e2 := gram.Row(l, c.history)
			next, e3 := gram.Next(l, c.history, c.w)
			if e1 != api.ErrArg || e2 != api.ErrArg || e3 != api.ErrArg || !isZero(w) || len(row) > 0 || len(next) > 0 {
				t.Errorf("%+v: errors %d, %d, %d", c, e1, e2, e3)
			}
		}
	}
	for _, l := range smoothings(t, api.Table{Order: 3, Words: 3}) {
		for _, n := range outside(0, 3) {
			if w, e := gram.Weight(l, []int{0, 1}, n); e != api.ErrArg || !isZero(w) {
				t.Errorf("Weight of %d: error %d", n, e)
			}
		}
		for _, n := range outside(1, 3) {
			if next, e := gram.Next(l, []int{0, 1}, n); e != api.ErrArg || len(next) > 0 {
				t.Errorf("Next of %d: error %d", n, e)
			}
		}
	}
}

func TestNext(t *testing.T) {
	for _, c := range []struct {
		order   int
		history string
		w       int
		want    string
	}{
		{1, "", 3, ""}, {2, "0", 3, "3"}, {2, "2", 1, "1"}, {3, "0 0", 2, "0 2"}, {3, "1 2", 3, "2 3"}, {4, "1 2 3", 1, "2 3 1"}, {4, "1 0 0", 3, "0 0 3"},
	} {
		for _, l := range smoothings(t, api.Table{Order: c.order, Words: 3}) {
			if got, e := gram.Next(l, ints(t, c.history), c.w); e != api.OK || show(got) != c.want {
				t.Errorf("%+v: %v and error %d", c, got, e)
			}
		}
	}
}

// TestConsequences checks P6.6.
func TestConsequences(t *testing.T) {
	r := rand.New(rand.NewSource(5))
	for range 300 {
		table := randomTable(t, r, 1+r.Intn(4), 1+r.Intn(3))
		for _, l := range append(smoothings(t, table), randomLanguage(t, r, table)) {
			h := randomHistory(r, table)
			row, e := gram.Row(l, h)
			if e != api.OK {
				t.Fatalf("error %d", e)
			}
			all, kinds, each := followed(table, h)
			unseen := new(big.Rat)
			for w, x := range row {
				p := valueOf(x)
				if p.Sign() <= 0 {
					t.Fatalf("a weight is %s", p)
				}
				for v, y := range row {
					if l.By == api.Added && each[w] > each[v] && p.Cmp(valueOf(y)) <= 0 {
						t.Fatalf("%d was seen more often than %d, but has a weight of %s", w, v, p)
					}
				}
				if l.By == api.Discounted && each[w] > 0 && p.Cmp(per(minus(whole(1), valueOf(l.Amount)), whole(all))) < 0 {
					t.Fatalf("%d was seen, but has a weight of %s", w, p)
				}
				if each[w] == 0 {
					unseen = plus(unseen, p)
				}
			}
			if l.By == api.Typed && all > 0 && unseen.Cmp(ratio(kinds, all+kinds)) >= 0 {
				t.Fatalf("what was not seen has a weight of %s", unseen)
			}
		}
	}
}

// TestLargeRows checks rows of the greatest vocabulary with the greatest number of n-grams.
func TestLargeRows(t *testing.T) {
	r := rand.New(rand.NewSource(6))
	var sentences [][]int
	for range 40 {
		s := make([]int, 450)
		for i := range s {
			s[i] = 1 + int(r.ExpFloat64()*300)%2000
		}
		sentences = append(sentences, s)
	}
	for _, order := range []int{1, 4} {
		table := counted(t, order, 2000, sentences...)
		for _, l := range smoothings(t, table) {
			for _, h := range [][]int{table.List[len(table.List)/2].Words[:order-1], times(order-1, 2000), times(order-1, 0)} {
				row, e := gram.Row(l, h)
				if e != api.OK || len(row) != 2001 || !frac.Distribution(row) {
					t.Fatalf("%d of the order %d after %v: error %d", l.By, order, h, e)
				}
			}
		}
	}
}

// TestLongAmounts checks numbers with many digits.
func TestLongAmounts(t *testing.T) {
	long := strings.Repeat("7", 200)
	table := counted(t, 3, 2, []int{1, 2, 1}, []int{2})
	for _, l := range []api.Language{
		addedTo(t, table, long+"/3"), addedTo(t, table, "3/"+long), {Table: table, By: api.Discounted, Amount: f(t, "3/"+long)},
		{Table: table, By: api.Mixed, Mix: append([]api.Frac{f(t, "3/"+long), frac.Sub(frac.Of(1), f(t, "3/"+long))}, make([]api.Frac, 2)...)},
	} {
		for _, h := range listsOf(2, 2) {
			expectRow(t, l, h)
		}
	}
}
