// Tests of P5.5: Tree, Walk.

package sound_test

import (
	"fmt"
	"maps"
	"math/rand"
	"slices"
	"strings"
	"testing"

	"earshot/api"
	"earshot/frac"
	"earshot/sound"
)

// showNodes writes the nodes of a tree: the last phone, the parent, the ends and the greatest weight.
func showNodes(nodes []api.Node) string {
	var list []string
	for _, x := range nodes {
		list = append(list, fmt.Sprint(x.Phone, x.Parent, x.Ends)+" "+frac.Text(x.Best))
	}
	return strings.Join(list, ", ")
}

func TestTree(t *testing.T) {
	for _, c := range []struct {
		l    api.Lexicon
		want string
	}{
		{api.Lexicon{}, "0 -1 [] 0"},
		{example(t), "0 -1 [] 1, 1 0 [0] 1/2, 2 0 [1] 1/2, 3 0 [2] 1"},
		{made(t, entry(t, "a", "1")), "0 -1 [0] 1"},
		{made(t, entry(t, "a", "1"), entry(t, "b", "1"), entry(t, "b", "2", 5, 5)), "0 -1 [0 1] 1, 5 0 [] 2/3, 5 1 [2] 2/3"},
		{made(t, entry(t, "a", "3", 2, 1, 1), entry(t, "a", "1", 2, 10), entry(t, "b", "1", 2, 1), entry(t, "b", "5", 2), entry(t, "c", "1", 2, 1), entry(t, "c", "8", 1, 200)), "0 -1 [] 8/9, 1 0 [] 8/9, 200 1 [4] 8/9, 2 0 [2] 5/6, 1 3 [3 5] 3/4, 1 4 [0] 3/4, 10 3 [1] 1/4"},
	} {
		if nodes, e := sound.Tree(c.l); e != api.OK || showNodes(nodes) != c.want {
			t.Errorf("%s: %s and error %d, not %s", showLexicon(c.l), showNodes(nodes), e, c.want)
		}
	}
	for _, l := range []api.Lexicon{lexicon(entry(t, "a", "1/2")), lexicon(manyWords(1001)...), lexicon(entry(t, "a", "1", 201))} {
		if nodes, e := sound.Tree(l); e != api.ErrArg || len(nodes) > 0 {
			t.Errorf("%s and error %d", showNodes(nodes), e)
		}
		if n, e := sound.Walk(l, nil); e != api.ErrArg || n != 0 {
			t.Errorf("%d and error %d", n, e)
		}
	}
}

// beginningsOf returns the beginnings of the lists of phones of all entries, and the empty list, in order.
func beginningsOf(l api.Lexicon) [][]int {
	lists := map[string][]int{"": nil}
	for _, x := range l.Entries {
		for n := range x.Phones {
			lists[spelled(x.Phones[:n+1])] = x.Phones[:n+1]
		}
	}
	return slices.SortedFunc(maps.Values(lists), slices.Compare)
}

// expectTree compares the tree of a lexicon with the definition.
func expectTree(t *testing.T, l api.Lexicon) {
	t.Helper()
	nodes, e := sound.Tree(l)
	lists := beginningsOf(l)
	if e != api.OK || len(nodes) != len(lists) {
		t.Fatalf("%s: %s and error %d", showLexicon(l), showNodes(nodes), e)
	}
	for n, phones := range lists {
		want := api.Node{Parent: -1}
		if len(phones) > 0 {
			last := len(phones) - 1
			want.Phone = phones[last]
			want.Parent = slices.IndexFunc(lists, func(list []int) bool { return slices.Equal(list, phones[:last]) })
		}
		for i, x := range l.Entries {
			if slices.Equal(x.Phones, phones) {
				want.Ends = append(want.Ends, i)
			}
			if below := len(x.Phones) >= len(phones) && slices.Equal(x.Phones[:len(phones)], phones); below && valueOf(x.Weight).Cmp(valueOf(want.Best)) > 0 {
				want.Best = x.Weight
			}
		}
		got := nodes[n]
		if got.Phone != want.Phone || got.Parent != want.Parent || !slices.Equal(got.Ends, want.Ends) || valueOf(got.Best).Cmp(valueOf(want.Best)) != 0 || !isCanonical(got.Best) {
			t.Errorf("%s, %v: %v, not %v", showLexicon(l), phones, got, want)
		}
		if at, e := sound.Walk(l, phones); e != api.OK || at != n {
			t.Errorf("%s, %v: %d and error %d, not %d", showLexicon(l), phones, at, e, n)
		}
	}
}

func TestTreeDefinition(t *testing.T) {
	r := rand.New(rand.NewSource(10))
	expectTree(t, api.Lexicon{})
	for range 300 {
		expectTree(t, randomLexicon(t, r, 1+r.Intn(5), 4))
	}
	expectTree(t, lexicon(variants("a", 300)...))
}

// TestEntriesInTree checks that each entry is among the ends of the node of its phones, that no weight below a node is greater than its Best, and that one is equal to it.
func TestEntriesInTree(t *testing.T) {
	r := rand.New(rand.NewSource(11))
	for range 200 {
		l := randomLexicon(t, r, 4, 4)
		nodes, _ := sound.Tree(l)
		reached := make([]bool, len(nodes))
		for i, x := range l.Entries {
			at, e := sound.Walk(l, x.Phones)
			if e != api.OK || !slices.Contains(nodes[at].Ends, i) {
				t.Errorf("%s, entry %d: node %d and error %d", showLexicon(l), i, at, e)
			}
			for ; at >= 0; at = nodes[at].Parent {
				order := frac.Cmp(x.Weight, nodes[at].Best)
				reached[at] = reached[at] || order == 0
				if order > 0 {
					t.Errorf("%s: entry %d is better than node %d", showLexicon(l), i, at)
				}
			}
		}
		if slices.Contains(reached, false) {
			t.Errorf("%s: %v", showLexicon(l), reached)
		}
	}
}

func TestWalk(t *testing.T) {
	l := made(t, entry(t, "a", "1", 1, 2, 3), entry(t, "b", "1", 1, 2, 4), entry(t, "c", "1", 2), entry(t, "d", "1", times(40, 5)...))
	for _, c := range []struct {
		phones []int
		want   int
		e      api.Errno
	}{
		{nil, 0, api.OK}, {[]int{1}, 1, api.OK}, {[]int{1, 2}, 2, api.OK}, {[]int{1, 2, 3}, 3, api.OK}, {[]int{1, 2, 4}, 4, api.OK}, {[]int{2}, 5, api.OK}, {times(40, 5), 45, api.OK},
		{[]int{1, 1}, 0, api.ErrNone}, {[]int{3}, 0, api.ErrNone}, {[]int{1, 2, 3, 4}, 0, api.ErrNone}, {[]int{2, 2}, 0, api.ErrNone}, {[]int{2, 3}, 0, api.ErrNone}, {[]int{1, 2, 5}, 0, api.ErrNone}, {times(41, 5), 0, api.ErrNone}, {times(400, 5), 0, api.ErrNone}, {[]int{200}, 0, api.ErrNone},
		{times(401, 5), 0, api.ErrArg}, {[]int{0}, 0, api.ErrArg}, {[]int{201}, 0, api.ErrArg}, {[]int{1, -1}, 0, api.ErrArg}, {[]int{1, 2, 257}, 0, api.ErrArg},
	} {
		if at, e := sound.Walk(l, c.phones); e != c.e || at != c.want {
			t.Errorf("%v: %d and error %d, not %d and %d", c.phones, at, e, c.want, c.e)
		}
	}
	if at, e := sound.Walk(example(t), []int{3}); e != api.OK || at != 3 {
		t.Errorf("%d and error %d", at, e)
	}
	if at, e := sound.Walk(api.Lexicon{}, []int{1}); e != api.ErrNone || at != 0 {
		t.Errorf("%d and error %d", at, e)
	}
	for _, n := range wrongPhones() {
		if at, e := sound.Walk(l, []int{1, n}); e != api.ErrArg || at != 0 {
			t.Errorf("%d: %d and error %d", n, at, e)
		}
	}
}

// TestLargeTree checks the greatest lexicon: its tree, and where its lists end.
func TestLargeTree(t *testing.T) {
	var entries []api.Entry
	for i := range 1000 {
		entries = append(entries, api.Entry{Word: fmt.Sprint("w", 1000+i), Phones: append([]int{1 + i/200, 1 + i%200}, times(38, 7)...), Weight: frac.Of(1)})
	}
	l := lexicon(entries...)
	nodes, e := sound.Tree(l)
	if e != api.OK || len(nodes) != 1+5+1000*39 {
		t.Fatalf("%d nodes and error %d", len(nodes), e)
	}
	if at, e := sound.Walk(l, entries[999].Phones); e != api.OK || at != len(nodes)-1 || !slices.Equal(nodes[at].Ends, []int{999}) {
		t.Errorf("%d and error %d", at, e)
	}
}
