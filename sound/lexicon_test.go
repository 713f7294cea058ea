// Tests of P5.1: Valid, Make, Words, Variants.

package sound_test

import (
	"math/big"
	"math/rand"
	"slices"
	"strconv"
	"strings"
	"testing"

	"earshot/api"
	"earshot/frac"
	"earshot/sound"
)

// manyWords returns entries of so many words, in order.
func manyWords(n int) []api.Entry {
	var list []api.Entry
	for i := range n {
		list = append(list, api.Entry{Word: strconv.Itoa(10000 + i), Phones: []int{1 + i%200}, Weight: frac.Of(1)})
	}
	return list
}

// variants returns n entries of a word, with equal weights, in order.
func variants(word string, n int) []api.Entry {
	var list []api.Entry
	for i := range n {
		list = append(list, api.Entry{Word: word, Phones: []int{1 + i/200, 1 + i%200}, Weight: api.Frac{N: []uint32{1}, D: []uint32{uint32(n)}}})
	}
	return list
}

func TestValid(t *testing.T) {
	long := strings.Repeat("~", 40)
	for _, entries := range [][]api.Entry{
		nil, {}, example(t).Entries, {entry(t, "a", "1")}, {entry(t, "!", "1", 1, 200)}, {entry(t, long, "1", times(40, 200)...)},
		{entry(t, "a", "1/3"), entry(t, "a", "1/3", 1), entry(t, "a", "1/3", 1, 1)},
		{entry(t, "a", "1/3", 1, 2), entry(t, "a", "2/3", 2)},
		{entry(t, "A", "1", 5), entry(t, "a", "1", 4), entry(t, "aa", "1", 3), entry(t, "b", "1", 2)},
		{entry(t, "a", "1", 1), entry(t, "b", "1", 1)},
		{{Word: "a", Weight: api.Frac{N: []uint32{0, 2, 0}, D: []uint32{0, 4}}}, {Word: "a", Phones: []int{1}, Weight: api.Frac{N: []uint32{7, 0}, D: []uint32{14, 0}}}},
		manyWords(1000), variants("a", 1000),
	} {
		if !sound.Valid(lexicon(entries...)) {
			t.Errorf("%v is valid", entries)
		}
	}
}

func TestValidWrong(t *testing.T) {
	for _, entries := range [][]api.Entry{
		{entry(t, "a", "1/2")}, {entry(t, "a", "1/2"), entry(t, "a", "1/3", 1)}, {entry(t, "a", "1/2"), entry(t, "a", "2/3", 1)},
		{entry(t, "a", "1/2"), entry(t, "b", "1/2")}, {entry(t, "a", "2")}, {entry(t, "a", "0"), entry(t, "a", "1", 1)},
		{entry(t, "a", "-1"), entry(t, "a", "2", 1)}, {entry(t, "a", "3/2"), entry(t, "a", "-1/2", 1)}, {entry(t, "a", "1", 1), entry(t, "b", "0", 1)},
		{entry(t, "a", "1/2", 2), entry(t, "a", "1/2", 1)}, {entry(t, "a", "1/2", 1), entry(t, "a", "1/2", 1)}, {entry(t, "a", "1", 1), entry(t, "a", "1", 1)},
		{entry(t, "a", "1/2", 1, 1), entry(t, "a", "1/2", 1)}, {entry(t, "a", "1/2", 1), entry(t, "a", "1/2")},
		{entry(t, "b", "1", 1), entry(t, "a", "1", 2)}, {entry(t, "aa", "1"), entry(t, "a", "1")}, {entry(t, "a", "1"), entry(t, "A", "1")},
		{entry(t, "a", "1/2"), entry(t, "b", "1"), entry(t, "a", "1/2", 1)},
		manyWords(1001), variants("a", 1001),
	} {
		if sound.Valid(lexicon(entries...)) {
			t.Errorf("%v is not valid", entries)
		}
	}
}

// wrongEntries returns entries that are not as defined, whatever their weight is.
func wrongEntries(t *testing.T) []api.Entry {
	t.Helper()
	list := []api.Entry{entry(t, "", "1", 1), entry(t, strings.Repeat("a", 41), "1", 1), entry(t, "a", "1", times(41, 1)...), entry(t, "\u00e4", "1"), entry(t, strings.Repeat("a", 1000), "1")}
	for _, b := range []byte{0, 9, 10, 31, 32, 127, 128, 255} {
		list = append(list, entry(t, string([]byte{b}), "1", 1), entry(t, "a"+string([]byte{b}), "1", 1), entry(t, string([]byte{b, 'a'}), "1", 1))
	}
	for _, n := range wrongPhones() {
		list = append(list, entry(t, "a", "1", n), entry(t, "a", "1", 1, n), entry(t, "a", "1", n, 1))
	}
	for _, w := range []api.Frac{{}, {Neg: true, N: []uint32{1}}, {N: []uint32{0}, D: []uint32{5}}, {Neg: true, N: []uint32{1}, D: []uint32{1 << 31}}} {
		list = append(list, api.Entry{Word: "a", Phones: []int{1}, Weight: w})
	}
	return list
}

// TestWrongEntries checks that one wrong entry is enough for ErrArg, also behind others.
func TestWrongEntries(t *testing.T) {
	good := entry(t, "!", "1", 7)
	for _, wrong := range wrongEntries(t) {
		for _, entries := range [][]api.Entry{{wrong}, {good, wrong}, {wrong, good}, append(slices.Clone(example(t).Entries), wrong)} {
			if sound.Valid(lexicon(entries...)) {
				t.Errorf("%v is not valid", entries)
			}
			if l, e := sound.Make(entries); e != api.ErrArg || len(l.Entries) > 0 {
				t.Errorf("Make of %v: %s and error %d", entries, showLexicon(l), e)
			}
		}
	}
}

func TestMake(t *testing.T) {
	for _, c := range []struct {
		entries []api.Entry
		want    string
	}{
		{nil, ""},
		{[]api.Entry{entry(t, "a", "1", 1), entry(t, "a", "3", 2)}, "a: 1 (1/4), a: 2 (3/4)"},
		{[]api.Entry{entry(t, "a", "3", 2), entry(t, "a", "1/2", 1), entry(t, "a", "1/2", 1)}, "a: 1 (1/4), a: 2 (3/4)"},
		{[]api.Entry{entry(t, "a", "1/100", 5)}, "a: 5 (1)"},
		{[]api.Entry{entry(t, "b", "5", 1, 1), entry(t, "aa", "7"), entry(t, "b", "5", 1), entry(t, "a", "2"), entry(t, "B", "1/9", 200)}, "B: 200 (1), a:  (1), aa:  (1), b: 1 (1/2), b: 1 1 (1/2)"},
		{[]api.Entry{entry(t, "a", "1/3", 10), entry(t, "a", "1/3", 9), entry(t, "a", "1/3"), entry(t, "a", "1", 9)}, "a:  (1/6), a: 9 (2/3), a: 10 (1/6)"},
		{[]api.Entry{entry(t, "a", "1", 1), entry(t, "b", "2", 1)}, "a: 1 (1), b: 1 (1)"},
	} {
		if l, e := sound.Make(c.entries); e != api.OK || showLexicon(l) != c.want || !sound.Valid(l) {
			t.Errorf("%v: %s and error %d, not %s", c.entries, showLexicon(l), e, c.want)
		}
	}
	if l, e := sound.Make(manyWords(1001)); e != api.ErrArg || len(l.Entries) > 0 {
		t.Errorf("1001 entries: error %d", e)
	}
	if l, e := sound.Make(slices.Repeat(example(t).Entries[:1], 1001)); e != api.ErrArg || len(l.Entries) > 0 {
		t.Errorf("1001 equal entries: error %d", e)
	}
	if l := made(t, slices.Repeat(example(t).Entries[:1], 1000)...); showLexicon(l) != "a: 1 (1)" {
		t.Errorf("1000 equal entries: %s", showLexicon(l))
	}
	backwards := manyWords(1000)
	slices.Reverse(backwards)
	if l := made(t, backwards...); showLexicon(l) != showLexicon(lexicon(manyWords(1000)...)) {
		t.Errorf("1000 words: %s", showLexicon(l))
	}
}

// TestMakeKeepsShares checks random entries: what Make returns is valid, has each word and list of phones once, with its share of the weights of its word.
func TestMakeKeepsShares(t *testing.T) {
	r := rand.New(rand.NewSource(1))
	for range 200 {
		entries := randomEntries(r, 1+r.Intn(4), 2)
		order := showLexicon(lexicon(entries...))
		l := made(t, entries...)
		if showLexicon(lexicon(entries...)) != order {
			t.Fatalf("%s has become %v", order, entries)
		}
		want, sums := weights{}, weights{}
		for _, x := range entries {
			want.add(x.Word+":"+spelled(x.Phones), valueOf(x.Weight))
			sums.add(x.Word, valueOf(x.Weight))
		}
		if !sound.Valid(l) || len(l.Entries) != len(want) {
			t.Fatalf("%v: %s", entries, showLexicon(l))
		}
		for _, x := range l.Entries {
			share := new(big.Rat).Quo(want[x.Word+":"+spelled(x.Phones)], sums[x.Word])
			if share.Cmp(valueOf(x.Weight)) != 0 || !isCanonical(x.Weight) {
				t.Errorf("%v: %s", entries, showLexicon(l))
			}
		}
		if again := made(t, l.Entries...); showLexicon(again) != showLexicon(l) {
			t.Errorf("%s: %s", showLexicon(l), showLexicon(again))
		}
	}
}

func TestWords(t *testing.T) {
	many := manyWords(1000)
	for _, c := range []struct {
		l    api.Lexicon
		want []string
	}{
		{api.Lexicon{}, nil}, {example(t), []string{"a", "b"}}, {lexicon(variants("a", 1000)...), []string{"a"}},
		{made(t, entry(t, "b", "1"), entry(t, "B", "1"), entry(t, "ba", "1"), entry(t, "b", "1", 3)), []string{"B", "b", "ba"}},
	} {
		if words, e := sound.Words(c.l); e != api.OK || !slices.Equal(words, c.want) {
			t.Errorf("%s: %v and error %d", showLexicon(c.l), words, e)
		}
	}
	if words, e := sound.Words(lexicon(many...)); e != api.OK || len(words) != 1000 || !slices.IsSorted(words) {
		t.Errorf("1000 words: %v and error %d", words, e)
	}
	if words, e := sound.Words(lexicon(manyWords(1001)...)); e != api.ErrArg || len(words) > 0 {
		t.Errorf("1001 words: %v and error %d", words, e)
	}
	if words, e := sound.Words(lexicon(entry(t, "a", "1/2", 1))); e != api.ErrArg || len(words) > 0 {
		t.Errorf("half a word: %v and error %d", words, e)
	}
}

func TestVariants(t *testing.T) {
	l := made(t, entry(t, "a", "1", 1), entry(t, "a", "4", 3), entry(t, "a", "2", 2), entry(t, "a", "1", 1, 1), entry(t, "a", "1"), entry(t, "a", "1", 10), entry(t, "a", "4", 2, 9), entry(t, "aa", "1", 5))
	for _, c := range []struct {
		l          api.Lexicon
		word, want string
	}{
		{example(t), "a", "1 (1/2), 2 (1/2)"}, {example(t), "b", "3 (1)"}, {l, "aa", "5 (1)"},
		{l, "a", "2 9 (2/7), 3 (2/7), 2 (1/7),  (1/14), 1 (1/14), 1 1 (1/14), 10 (1/14)"},
	} {
		if forms, e := sound.Variants(c.l, c.word); e != api.OK || showForms(forms) != c.want {
			t.Errorf("%s: %s and error %d, not %s", c.word, showForms(forms), e, c.want)
		}
	}
	if forms, e := sound.Variants(lexicon(variants("a", 1000)...), "a"); e != api.OK || len(forms) != 1000 || !isOne(total(forms)) {
		t.Errorf("1000 variants: %d and error %d", len(forms), e)
	}
	wrong := lexicon(entry(t, "a", "1/2", 1))
	for _, c := range []struct {
		l    api.Lexicon
		word string
		want api.Errno
	}{
		{l, "", api.ErrNone}, {l, "b", api.ErrNone}, {l, "A", api.ErrNone}, {l, "aaa", api.ErrNone}, {l, " ", api.ErrNone}, {l, strings.Repeat("a", 50), api.ErrNone}, {api.Lexicon{}, "a", api.ErrNone},
		{wrong, "a", api.ErrArg}, {wrong, "b", api.ErrArg}, {lexicon(manyWords(1001)...), "10000", api.ErrArg},
	} {
		if forms, e := sound.Variants(c.l, c.word); e != c.want || len(forms) > 0 {
			t.Errorf("%q: %s and error %d, not %d", c.word, showForms(forms), e, c.want)
		}
	}
}
