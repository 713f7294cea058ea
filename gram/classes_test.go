// Tests of P6.4.

package gram_test

import (
	"math/big"
	"math/rand"
	"testing"

	"earshot/api"
	"earshot/gram"
)

// classesOf are classes, written with blanks between numbers.
func classesOf(t *testing.T, of, in string) api.Classes {
	t.Helper()
	return api.Classes{Of: ints(t, of), In: fs(t, in)}
}

func TestCheckClasses(t *testing.T) {
	for _, c := range []struct{ of, in string }{
		{"1", "1"}, {"2000", "1"}, {"7 7", "0 1"}, {"1 1 2", "1/4 3/4 1"}, {"2 1 2 1", "1/3 1/7 2/3 6/7"}, {"5 9 5 5", "1/2 1 0 1/2"},
	} {
		if e := gram.CheckClasses(classesOf(t, c.of, c.in)); e != api.OK {
			t.Errorf("%+v: error %d", c, e)
		}
	}
	for n, want := range map[int]api.Errno{2000: api.OK, 2001: api.ErrArg} {
		c := api.Classes{Of: make([]int, n), In: make([]api.Frac, n)}
		for i := range min(n, 2000) {
			c.Of[i], c.In[i] = 1+i, f(t, "1")
		}
		c.Of[n-1] = 2000
		if e := gram.CheckClasses(c); e != want {
			t.Errorf("%d words: error %d", n, e)
		}
	}
	for _, c := range wrongClasses(t) {
		if e := gram.CheckClasses(c); e != api.ErrArg {
			t.Errorf("%+v: error %d", c, e)
		}
		h := make([]int, 1)
		if w, e := gram.Classed(addedTo(t, api.Table{Order: 2, Words: 2000}, "1"), c, h, 0); e != api.ErrArg || !isZero(w) {
			t.Errorf("Classed by %+v: error %d", c, e)
		}
	}
}

// wrongClasses returns classes that are not valid.
func wrongClasses(t *testing.T) []api.Classes {
	t.Helper()
	var list []api.Classes
	for _, c := range []struct{ of, in string }{
		{"", ""}, {"1", ""}, {"", "1"}, {"1 1", "1"}, {"1", "1 0"}, {"1 2", "1"}, {"1 2", "1 1 1"},
		{"1", "0"}, {"1", "2"}, {"1", "-1"}, {"1", "1/2"}, {"1 1", "2 -1"}, {"1 1", "1/2 1/3"}, {"1 2", "1/2 1/2"}, {"1 1 2", "1/2 1/2 0"}, {"1 2 1", "1/2 2 1/2"}, {"1 1", "1 1"},
	} {
		list = append(list, classesOf(t, c.of, c.in))
	}
	for _, n := range outside(1, 2000) {
		list = append(list, api.Classes{Of: []int{n}, In: fs(t, "1")}, api.Classes{Of: []int{1, n}, In: fs(t, "1 1")})
	}
	return list
}

func TestClassedExamples(t *testing.T) {
	l := addedTo(t, example(t), "1")
	c := classesOf(t, "1 1 2", "1/4 3/4 1")
	for _, x := range []struct {
		h, w int
		want string
	}{{3, 2, "3/16"}, {3, 0, "1/2"}, {3, 3, "1/4"}, {0, 1, "3/20"}, {0, 3, "1/5"}, {1, 0, "1/3"}, {2, 1, "1/12"}} {
		w, e := gram.Classed(l, c, []int{x.h}, x.w)
		if e != api.OK || showRow([]api.Frac{w}) != x.want {
			t.Errorf("%+v: %s and error %d", x, showRow([]api.Frac{w}), e)
		}
	}
	// No word has the class 1, so that it keeps its weight.
	only := classesOf(t, "2 2", "1/3 2/3")
	for w, want := range []string{"1/5", "1/15", "2/15"} {
		if got, e := gram.Classed(l, only, []int{0}, w); e != api.OK || showRow([]api.Frac{got}) != want {
			t.Errorf("%d: %s and error %d", w, showRow([]api.Frac{got}), e)
		}
	}
}

// TestClassed compares with the definition, and checks the sums of weights.
func TestClassed(t *testing.T) {
	r := rand.New(rand.NewSource(10))
	for range 150 {
		table := randomTable(t, r, 1+r.Intn(3), 1+r.Intn(3))
		l := randomLanguage(t, r, table)
		words := 1 + r.Intn(6)
		c := randomClasses(t, r, words, table.Words)
		of := append([]int{0}, c.Of...)
		for range 4 {
			h := randomHistory(r, api.Table{Order: table.Order, Words: words})
			var classes []int
			for _, n := range h {
				classes = append(classes, of[n])
			}
			all := new(big.Rat)
			for w := range words + 1 {
				want := weight(l, table, classes, of[w])
				if w > 0 {
					want = by(want, valueOf(c.In[w-1]))
				}
				got, e := gram.Classed(l, c, h, w)
				expect(t, "Classed", got, e, want)
				all = plus(all, want)
			}
			if words >= table.Words != isOne(all) || all.Cmp(whole(1)) > 0 {
				t.Fatalf("%d words in %d classes have together the weight %s", words, table.Words, all)
			}
		}
	}
}

func TestClassedErrors(t *testing.T) {
	c := classesOf(t, "1 1 2", "1/4 3/4 1")
	l := addedTo(t, api.Table{Order: 2, Words: 2}, "1")
	long := api.Language{Table: api.Table{List: make([]api.Gram, 20001)}}
	type refused struct {
		l       api.Language
		c       api.Classes
		history []int
		w       int
		want    api.Errno
	}
	list := []refused{
		{l, c, nil, 1, api.ErrArg}, {l, c, []int{1, 1}, 1, api.ErrArg}, {addedTo(t, api.Table{Order: 1, Words: 2}, "1"), c, []int{0}, 1, api.ErrArg}, {addedTo(t, api.Table{Order: 2, Words: 1}, "1"), c, []int{0}, 0, api.ErrArg},
		{l, classesOf(t, "1 3", "1 1"), []int{0}, 1, api.ErrArg}, {l, classesOf(t, "3 1", "1 1"), []int{2}, 2, api.ErrArg},
		{long, c, []int{0}, 0, api.ErrLong}, {long, api.Classes{}, nil, 9, api.ErrLong}, {addedTo(t, l.Table, "0"), c, []int{0}, 0, api.ErrArg},
	}
	for _, n := range outside(0, 3) {
		list = append(list, refused{l, c, []int{n}, 1, api.ErrArg}, refused{l, c, []int{1}, n, api.ErrArg})
	}
	for _, x := range list {
		if w, e := gram.Classed(x.l, x.c, x.history, x.w); e != x.want || !isZero(w) {
			t.Errorf("%v after %v by %v: error %d", x.w, x.history, x.c.Of, e)
		}
	}
	// Words may be more than classes, and more than the words of the language model.
	if _, e := gram.Classed(l, c, []int{3}, 3); e != api.OK {
		t.Errorf("the last word: error %d", e)
	}
}
