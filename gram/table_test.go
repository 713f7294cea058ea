// Tests of P6.1.

package gram_test

import (
	"math"
	"math/rand"
	"slices"
	"testing"

	"earshot/api"
	"earshot/gram"
)

func TestTableExamples(t *testing.T) {
	x := example(t)
	if got := showTable(x); got != "2/2 0 1: 2; 1 0: 1; 1 1: 1; 1 2: 1; 2 0: 1" {
		t.Error(got)
	}
	if low, e := gram.Lower(x); e != api.OK || showTable(low) != "1/2 0: 2; 1: 3; 2: 1" {
		t.Errorf("Lower: %s and error %d", showTable(low), e)
	}
}

func TestCountExamples(t *testing.T) {
	for _, c := range []struct {
		order, words int
		sentences    [][]int
		want         string
	}{
		{1, 1, nil, "1/1 "}, {4, 2000, [][]int{}, "4/2000 "},
		{1, 1, [][]int{nil}, "1/1 0: 1"}, {2, 1, [][]int{{}}, "2/1 0 0: 1"}, {4, 1, [][]int{nil, nil}, "4/1 0 0 0 0: 2"},
		{1, 2, [][]int{{2, 1, 2}}, "1/2 0: 1; 1: 1; 2: 2"},
		{3, 2, [][]int{{2}}, "3/2 0 0 2: 1; 0 2 0: 1"},
		{3, 3, [][]int{{1, 2, 3}, {2, 3}}, "3/3 0 0 1: 1; 0 0 2: 1; 0 1 2: 1; 0 2 3: 1; 1 2 3: 1; 2 3 0: 2"},
		{4, 1, [][]int{{1, 1}}, "4/1 0 0 0 1: 1; 0 0 1 1: 1; 0 1 1 0: 1"},
		{2, 2000, [][]int{{2000, 9, 10}}, "2/2000 0 2000: 1; 9 10: 1; 10 0: 1; 2000 9: 1"},
	} {
		got, e := gram.Count(c.order, c.words, c.sentences...)
		if e != api.OK || showTable(got) != c.want || gram.CheckTable(got) != api.OK {
			t.Errorf("%+v: %s and error %d", c, showTable(got), e)
		}
	}
}

// TestCount compares with the definition, and checks that lower tables are those of lower orders, and that tables of sentences can be merged in any order.
func TestCount(t *testing.T) {
	r := rand.New(rand.NewSource(1))
	for range 300 {
		order, words := 1+r.Intn(4), 1+r.Intn(3)
		var sentences [][]int
		for range r.Intn(5) {
			sentences = append(sentences, randomSentence(r, words, 6))
		}
		all := counted(t, order, words, sentences...)
		if want := tableBy(order, words, sentences...); !sameTables(all, want) || gram.CheckTable(all) != api.OK {
			t.Fatalf("%d-grams of %v: %s", order, sentences, showTable(all))
		}
		if low, e := gram.Lower(all); order > 1 && (e != api.OK || !sameTables(low, counted(t, order-1, words, sentences...))) {
			t.Fatalf("Lower of the %d-grams of %v: %s and error %d", order, sentences, showTable(low), e)
		}
		together := counted(t, order, words)
		for _, i := range r.Perm(len(sentences)) {
			var e api.Errno
			together, e = gram.Merge(counted(t, order, words, sentences[i]), together)
			if e != api.OK {
				t.Fatalf("Merge: error %d", e)
			}
		}
		if !sameTables(together, all) {
			t.Fatalf("%v together: %s, not %s", sentences, showTable(together), showTable(all))
		}
	}
}

func TestCountErrors(t *testing.T) {
	long, longest := times(501, 1), times(500, 1)
	type refused struct {
		order, words int
		sentences    [][]int
		want         api.Errno
	}
	list := []refused{
		{1, 1, [][]int{longest, longest}, api.OK}, {4, 2000, [][]int{{2000}}, api.OK},
		{1, 1, [][]int{long}, api.ErrLong}, {1, 1, [][]int{nil, longest, long}, api.ErrLong}, {0, 1, [][]int{{2}, long}, api.ErrLong}, {1, 0, [][]int{long}, api.ErrLong}, {1, 1, [][]int{{0}, long}, api.ErrLong},
		{1, 1, [][]int{times(501, 2)}, api.ErrLong},
	}
	for _, n := range outside(1, 4) {
		list = append(list, refused{n, 1, nil, api.ErrArg}, refused{n, 1, [][]int{{1}}, api.ErrArg})
	}
	for _, n := range outside(1, 2000) {
		list = append(list, refused{1, n, nil, api.ErrArg}, refused{2, n, [][]int{{1}, nil}, api.ErrArg})
	}
	for _, n := range outside(1, 3) {
		list = append(list, refused{1, 3, [][]int{{n}}, api.ErrArg}, refused{4, 3, [][]int{{1}, {1, n}}, api.ErrArg}, refused{2, 3, [][]int{{n, 3, 3}, nil}, api.ErrArg})
	}
	for _, c := range list {
		if got, e := gram.Count(c.order, c.words, c.sentences...); e != c.want || e != api.OK && !isNothing(got) {
			t.Errorf("%d, %d, %v: %s and error %d", c.order, c.words, c.sentences, showTable(got), e)
		}
	}
}

// most returns sentences with as many 2-grams as a table may have.
func most() [][]int {
	var sentences [][]int
	for n := range 2000 { // 4000
		sentences = append(sentences, []int{n + 1})
	}
	for n := range 16000 { // one each
		sentences = append(sentences, []int{1 + n/2000, 1 + n%2000})
	}
	return sentences
}

// TestManyGrams checks tables with the greatest number of n-grams, and with one more.
func TestManyGrams(t *testing.T) {
	full := counted(t, 2, 2000, most()...)
	if len(full.List) != 20000 || gram.CheckTable(full) != api.OK {
		t.Fatalf("%d n-grams", len(full.List))
	}
	one := counted(t, 2, 2000, []int{9, 1})
	if got, e := gram.Count(2, 2000, append(most(), []int{9, 1})...); e != api.ErrLong || !isNothing(got) {
		t.Errorf("Count of one more: error %d", e)
	}
	if got, e := gram.Count(2, 2000, append(most(), []int{9, 1}, []int{2001})...); e != api.ErrArg || !isNothing(got) {
		t.Errorf("Count of one more and no word: error %d", e)
	}
	if got, e := gram.Merge(full, full); e != api.OK || len(got.List) != 20000 || got.List[19999].N != 2*full.List[19999].N {
		t.Errorf("Merge with itself: error %d", e)
	}
	for _, pair := range [][2]api.Table{{full, one}, {one, full}} {
		if got, e := gram.Merge(pair[0], pair[1]); e != api.ErrLong || !isNothing(got) {
			t.Errorf("Merge with one more: error %d", e)
		}
	}
	often := api.Table{Order: 2, Words: 2000, List: []api.Gram{{Words: []int{0, 1}, N: 1 << 30}, {Words: []int{9, 1}, N: 1}}}
	if got, e := gram.Merge(full, often); e != api.ErrLong || !isNothing(got) {
		t.Errorf("Merge with one more, and a sum that is too great: error %d", e)
	}
	if low, e := gram.Lower(full); e != api.OK || len(low.List) != 2001 {
		t.Errorf("Lower: error %d", e)
	}
	if got, e := gram.Drop(full, 2); e != api.OK || !sameTables(got, dropped(full, 2)) {
		t.Errorf("Drop: error %d", e)
	}
	long := api.Table{Order: 2, Words: 2000, List: append(slices.Clone(full.List), api.Gram{Words: []int{2000, 2000}, N: 1})}
	for _, table := range []api.Table{long, {List: make([]api.Gram, 20001)}, {Order: 9, Words: -1, List: make([]api.Gram, 30000)}} {
		expectRefused(t, "20001 n-grams", table, api.ErrLong)
	}
}

// expectRefused checks the error of a table in all functions that take one.
func expectRefused(t *testing.T, what string, table api.Table, want api.Errno) {
	t.Helper()
	fine := api.Table{Order: table.Order, Words: table.Words}
	if e := gram.CheckTable(table); e != want {
		t.Errorf("%s: CheckTable: error %d", what, e)
	}
	a, e1 := gram.Merge(table, fine)
	b, e2 := gram.Merge(fine, table)
	c, e3 := gram.Lower(table)
	d, e4 := gram.Drop(table, 1)
	if e1 != want || e2 != want || e3 != want || e4 != want || !isNothing(a) || !isNothing(b) || !isNothing(c) || !isNothing(d) {
		t.Errorf("%s: errors %d, %d, %d, %d", what, e1, e2, e3, e4)
	}
	for _, l := range smoothings(t, api.Table{Order: min(max(table.Order, 1), 4), Words: 1}) {
		l.Table = table
		expectNoModel(t, what, l, want)
	}
}

// wrongTables returns tables that are not valid.
func wrongTables(t *testing.T) []api.Table {
	t.Helper()
	list := []api.Table{
		{}, {Order: 1}, {Words: 1},
		tableOf(t, 2, 2, "1: 1"), tableOf(t, 2, 2, "1 1 1: 1"), tableOf(t, 2, 2, ": 1"), tableOf(t, 2, 2, "0 1: 1; 1: 1"), tableOf(t, 2, 2, "0 1: 1; 1 1 1: 1"),
		tableOf(t, 2, 2, "0 1: 1; 0 1: 1"), tableOf(t, 2, 2, "0 1: 1; 0 0: 1"), tableOf(t, 2, 2, "0 0: 1; 1 1: 1; 1 0: 1"), tableOf(t, 1, 2, "1: 1; 0: 1"), tableOf(t, 2, 2, "0 0: 1; 2 0: 1; 1 2: 1"),
	}
	for _, n := range outside(1, 4) {
		list = append(list, api.Table{Order: n, Words: 1})
	}
	for _, n := range outside(1, 2000) {
		list = append(list, api.Table{Order: 1, Words: n})
	}
	for _, n := range outside(0, 2) {
		for place := range 3 {
			x := tableOf(t, 3, 2, "0 0 0: 1; 1 1 1: 1; 2 2 2: 1")
			x.List[1].Words[place] = n
			x.List[1+min(place, 1)].Words[place] = n
			list = append(list, x)
		}
	}
	for _, n := range outside(1, 1<<30) {
		for place := range 3 {
			x := tableOf(t, 1, 2, "0: 1; 1: 1; 2: 1")
			x.List[place].N = n
			list = append(list, x)
		}
	}
	return list
}

func TestCheckTable(t *testing.T) {
	for _, x := range []api.Table{{Order: 1, Words: 1}, {Order: 4, Words: 2000, List: []api.Gram{}}, tableOf(t, 1, 1, "0: 1; 1: 1073741824"), tableOf(t, 4, 2000, "0 0 0 0: 1; 0 0 0 2000: 1; 0 0 1 0: 1; 2000 2000 2000 1999: 1; 2000 2000 2000 2000: 1"), tableOf(t, 2, 3, "1 3: 1; 2 0: 1")} {
		if e := gram.CheckTable(x); e != api.OK {
			t.Errorf("%s: error %d", showTable(x), e)
		}
	}
	for _, x := range wrongTables(t) {
		expectRefused(t, showTable(x), x, api.ErrArg)
	}
}

func TestMergeExamples(t *testing.T) {
	for _, c := range []struct{ a, b, want string }{
		{"", "", "2/2 "}, {"0 1: 1", "", "2/2 0 1: 1"}, {"0 1: 1; 2 2: 7", "0 0: 2; 2 2: 3", "2/2 0 0: 2; 0 1: 1; 2 2: 10"},
		{"1 1: 536870912", "1 1: 536870912", "2/2 1 1: 1073741824"}, {"1 1: 1073741823; 1 2: 5", "1 1: 1; 2 1: 1", "2/2 1 1: 1073741824; 1 2: 5; 2 1: 1"},
	} {
		a, b := tableOf(t, 2, 2, c.a), tableOf(t, 2, 2, c.b)
		for _, pair := range [][2]api.Table{{a, b}, {b, a}} {
			if got, e := gram.Merge(pair[0], pair[1]); e != api.OK || showTable(got) != c.want {
				t.Errorf("%+v: %s and error %d", c, showTable(got), e)
			}
		}
	}
}

func TestMergeErrors(t *testing.T) {
	x := tableOf(t, 2, 2, "0 1: 1; 1 1: 1073741824")
	long := api.Table{Order: 2, Words: 2, List: make([]api.Gram, 20001)}
	for _, c := range []struct {
		b    api.Table
		want api.Errno
	}{
		{tableOf(t, 2, 2, "1 1: 1"), api.ErrArg}, {x, api.ErrArg}, {tableOf(t, 2, 3, ""), api.ErrArg}, {tableOf(t, 2, 1, "0 1: 1"), api.ErrArg}, {tableOf(t, 1, 2, ""), api.ErrArg}, {tableOf(t, 3, 2, ""), api.ErrArg},
		{api.Table{}, api.ErrArg}, {tableOf(t, 2, 2, "1 2: 0"), api.ErrArg}, {long, api.ErrLong},
	} {
		for _, pair := range [][2]api.Table{{x, c.b}, {c.b, x}} {
			if got, e := gram.Merge(pair[0], pair[1]); e != c.want || !isNothing(got) {
				t.Errorf("%d n-grams with %d: error %d", len(pair[0].List), len(pair[1].List), e)
			}
		}
	}
	for _, pair := range [][2]api.Table{{long, {}}, {{}, long}} {
		if got, e := gram.Merge(pair[0], pair[1]); e != api.ErrLong || !isNothing(got) {
			t.Errorf("too many n-grams, and a table that is not valid: error %d", e)
		}
	}
}

func TestLowerExamples(t *testing.T) {
	for _, c := range []struct {
		order      int
		list, want string
		e          api.Errno
	}{
		{2, "", "1/2 ", api.OK}, {4, "", "3/2 ", api.OK}, {3, "0 1 2: 3; 1 0 0: 2; 1 1 2: 4; 2 0 2: 1", "2/2 0 0: 2; 0 2: 1; 1 2: 7", api.OK},
		{2, "0 1: 536870912; 1 1: 536870912", "1/2 1: 1073741824", api.OK}, {2, "0 1: 1073741823; 1 0: 7; 1 1: 2", "", api.ErrArg}, {2, "0 1: 1073741824; 1 1: 1; 2 1: 1073741824", "", api.ErrArg},
		{1, "", "", api.ErrArg}, {1, "0: 1", "", api.ErrArg},
	} {
		got, e := gram.Lower(tableOf(t, c.order, 2, c.list))
		if e != c.e || e == api.OK && showTable(got) != c.want || e != api.OK && !isNothing(got) {
			t.Errorf("%+v: %s and error %d", c, showTable(got), e)
		}
	}
}

// dropped returns the table without n-grams whose N is less than least.
func dropped(t api.Table, least int) api.Table {
	t.List = slices.DeleteFunc(slices.Clone(t.List), func(g api.Gram) bool { return g.N < least })
	return t
}

func TestDrop(t *testing.T) {
	x := tableOf(t, 2, 3, "0 1: 2; 0 3: 1; 1 0: 4; 1 1: 1073741824; 3 0: 3; 3 3: 2")
	for _, c := range []struct {
		least int
		want  string
	}{
		{1, showTable(x)}, {0, showTable(x)}, {-5, showTable(x)}, {math.MinInt, showTable(x)}, {2, "2/3 0 1: 2; 1 0: 4; 1 1: 1073741824; 3 0: 3; 3 3: 2"}, {3, "2/3 1 0: 4; 1 1: 1073741824; 3 0: 3"},
		{1 << 30, "2/3 1 1: 1073741824"}, {1<<30 + 1, "2/3 "}, {math.MaxInt, "2/3 "},
	} {
		if got, e := gram.Drop(x, c.least); e != api.OK || showTable(got) != c.want {
			t.Errorf("%d: %s and error %d", c.least, showTable(got), e)
		}
	}
	r := rand.New(rand.NewSource(2))
	for range 100 {
		y, least := randomTable(t, r, 1+r.Intn(3), 1+r.Intn(3)), r.Intn(6)
		if got, e := gram.Drop(y, least); e != api.OK || !sameTables(got, dropped(y, least)) {
			t.Fatalf("%s, %d: %s and error %d", showTable(y), least, showTable(got), e)
		}
	}
}

// TestTables compares Lower and Merge with the definitions, for tables with any n-grams.
func TestTables(t *testing.T) {
	r := rand.New(rand.NewSource(3))
	for range 300 {
		order, words := 1+r.Intn(3), 1+r.Intn(3)
		a, b := randomTable(t, r, order, words), randomTable(t, r, order, words)
		seen := map[string]int{}
		for _, g := range slices.Concat(a.List, b.List) {
			seen[joined(g.Words)] += g.N
		}
		got, e := gram.Merge(a, b)
		expectTable(t, "Merge", got, e, tallied(order, words, seen))
		if order > 1 {
			got, e = gram.Lower(a)
			expectTable(t, "Lower", got, e, lowerOf(a))
		}
	}
}

// expectTable checks a table, or its error if an N would be too great.
func expectTable(t *testing.T, what string, got api.Table, e api.Errno, want api.Table) {
	t.Helper()
	if slices.ContainsFunc(want.List, func(g api.Gram) bool { return g.N > 1<<30 }) {
		if e != api.ErrArg || !isNothing(got) {
			t.Fatalf("%s: %s and error %d", what, showTable(got), e)
		}
		return
	}
	if e != api.OK || !sameTables(got, want) || gram.CheckTable(got) != api.OK {
		t.Fatalf("%s: %s and error %d, not %s", what, showTable(got), e, showTable(want))
	}
}
