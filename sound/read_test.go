// Tests of P5.4: Read, Homophones.

package sound_test

import (
	"cmp"
	"math/rand"
	"slices"
	"strings"
	"testing"

	"earshot/api"
	"earshot/sound"
)

func TestRead(t *testing.T) {
	l := example(t)
	silent := made(t, entry(t, "a", "1"), entry(t, "a", "1", 1), entry(t, "b", "1", 1), entry(t, "c", "1", 1, 1), entry(t, "ca", "1", 1, 1))
	for _, c := range []struct {
		l      api.Lexicon
		rules  []api.Rewrite
		phones []int
		most   int
		want   string
	}{
		{l, toFour(t), []int{4, 3}, 2, "a b (1/6)"}, {l, toFour(t), []int{4, 3}, 1, ""}, {l, nil, nil, 2, " (1)"}, {l, nil, []int{4, 3}, 4, ""},
		{l, toFour(t), []int{1, 3}, 2, "a b (1/3)"}, {l, nil, []int{1, 3}, 2, "a b (1/2)"}, {l, nil, []int{1, 2, 1, 2}, 4, "a a a a (1/16)"}, {l, nil, []int{1, 2, 1, 2, 1}, 4, ""},
		{l, nil, nil, 0, " (1)"}, {l, nil, []int{1}, 0, ""}, {api.Lexicon{}, nil, nil, 4, " (1)"}, {api.Lexicon{}, toFour(t), []int{1}, 4, ""}, {l, nil, times(400, 1), 4, ""},
		{silent, nil, nil, 2, " (1), a (1/2), a a (1/4)"},
		{silent, nil, []int{1, 1}, 1, "c (1), ca (1)"},
		{silent, nil, []int{1, 1}, 2, "b b (1), c (1), ca (1), a b (1/2), a c (1/2), a ca (1/2), b a (1/2), c a (1/2), ca a (1/2), a a (1/4)"},
		{l, deleting(t, "1", 1, 2, 3), nil, 1, " (1), a (1), b (1)"},
	} {
		if readings, e := sound.Read(c.l, c.rules, c.phones, c.most); e != api.OK || showReadings(readings) != c.want {
			t.Errorf("%v in %d words: %s and error %d, not %s", c.phones, c.most, showReadings(readings), e, c.want)
		}
	}
}

// TestReadDefinition compares with the definition.
func TestReadDefinition(t *testing.T) {
	r := rand.New(rand.NewSource(7))
	for i := range 400 {
		l, rules, most := randomLexicon(t, r, 1+r.Intn(3), 2), randomRules(r, 4), i%4
		phones := randomPhones(r, 4)
		if forms, _ := sound.Pronounce(l, rules, randomWords(r, 1, 3)); i%2 == 0 {
			phones = forms[r.Intn(len(forms))].Phones
		}
		readings, e := sound.Read(l, rules, phones, most)
		want := readingsOf(l, rules, phones, most)
		if e != api.OK || len(readings) != len(want) {
			t.Fatalf("%s, %v, %v: %s and error %d, not %v", showLexicon(l), rules, phones, showReadings(readings), e, want)
		}
		for _, x := range readings {
			weight := want[strings.Join(x.Words, " ")]
			if weight == nil || weight.Cmp(valueOf(x.Weight)) != 0 || !isCanonical(x.Weight) {
				t.Fatalf("%s, %v, %v: %s, not %v", showLexicon(l), rules, phones, showReadings(readings), want)
			}
		}
		expectReadingsInOrder(t, readings)
	}
}

func expectReadingsInOrder(t *testing.T, readings []api.Reading) {
	t.Helper()
	for i := range len(readings) - 1 {
		a, b := readings[i], readings[i+1]
		if cmp.Or(valueOf(b.Weight).Cmp(valueOf(a.Weight)), slices.Compare(a.Words, b.Words)) >= 0 {
			t.Fatalf("%s are not in order", showReadings(readings))
		}
	}
}

// TestReadPronounced checks that a list of words is among the readings of each of its pronunciations, with the weight of this one, unless there are more words.
func TestReadPronounced(t *testing.T) {
	r := rand.New(rand.NewSource(8))
	for range 100 {
		l, rules, words := randomLexicon(t, r, 3, 2), randomRules(r, 3), randomWords(r, 3, 3)
		forms, e := sound.Pronounce(l, rules, words)
		if e != api.OK {
			t.Fatal(e)
		}
		for _, x := range forms {
			for most := range 5 {
				readings, e := sound.Read(l, rules, x.Phones, most)
				i := slices.IndexFunc(readings, func(y api.Reading) bool { return slices.Equal(y.Words, words) })
				if e != api.OK || (i >= 0) != (len(words) <= most) || i >= 0 && valueOf(readings[i].Weight).Cmp(valueOf(x.Weight)) != 0 {
					t.Errorf("%s, %v in %d words: %s and error %d", words, x, most, showReadings(readings), e)
				}
			}
		}
	}
}

func TestReadErrors(t *testing.T) {
	l, rules := example(t), toFour(t)
	wrong := lexicon(entry(t, "a", "1/2", 1))
	large := lexicon(manyWords(41)...)
	list := []refused{{wrong, rules, nil, nil, api.ErrArg}, {l, rules, nil, times(401, 1), api.ErrArg}, {large, rules, nil, times(401, 1), api.ErrArg}, {large, rules, nil, nil, api.ErrLong}, {large, rules, nil, []int{1, 2}, api.ErrLong}}
	for _, x := range wrongRules(t) {
		list = append(list, refused{l, x, nil, nil, api.ErrArg}, refused{large, x, nil, nil, api.ErrArg})
	}
	for _, n := range wrongPhones() {
		list = append(list, refused{l, rules, nil, []int{1, n}, api.ErrArg}, refused{large, nil, nil, []int{n}, api.ErrArg})
	}
	for _, c := range list {
		for most := range 5 {
			if readings, e := sound.Read(c.l, c.rules, c.phones, most); e != c.want || len(readings) > 0 {
				t.Errorf("%v: %s and error %d, not %d", c, showReadings(readings), e, c.want)
			}
		}
	}
	for _, most := range edgeInts() {
		want := api.OK
		if most < 0 || most > 4 {
			want = api.ErrArg
		}
		if readings, e := sound.Read(l, rules, []int{1}, most); e != want || e != api.OK && len(readings) > 0 {
			t.Errorf("%d words: %s and error %d", most, showReadings(readings), e)
		}
		if _, e := sound.Read(large, rules, []int{1}, most); most < 0 && e != api.ErrArg {
			t.Errorf("%d words of 41 entries: error %d", most, e)
		}
	}
	if readings, e := sound.Read(lexicon(manyWords(40)...), rules, []int{7, 6}, 4); e != api.OK || showReadings(readings) != "10006 10005 (1)" {
		t.Errorf("40 entries: %s and error %d", showReadings(readings), e)
	}
}

// alike returns entries of n words that begin with a letter and have the same phones.
func alike(t *testing.T, letter string, n int, phones ...int) []api.Entry {
	t.Helper()
	var list []api.Entry
	for i := range n {
		list = append(list, entry(t, letter+string(rune('A'+i)), "1", phones...))
	}
	return list
}

func TestReadMany(t *testing.T) {
	fifty := slices.Concat(alike(t, "a", 10, 1), alike(t, "b", 10, 2), alike(t, "c", 10, 3), alike(t, "d", 5, 4))
	for _, c := range []struct {
		entries []api.Entry
		phones  []int
		most    int
		want    int
	}{
		{fifty, []int{1, 2, 3, 4}, 4, 5000}, {append(fifty, entry(t, "e", "1", 1, 2, 3, 4)), []int{1, 2, 3, 4}, 4, 0}, {append(fifty, entry(t, "e", "1", 1, 2, 3, 4)), []int{1, 2, 3, 4}, 3, 1},
		{alike(t, "a", 8), nil, 4, 4681}, {alike(t, "a", 9), nil, 4, 0}, {alike(t, "a", 9), nil, 3, 820}, {alike(t, "a", 40), nil, 2, 1641}, {alike(t, "a", 40), nil, 3, 0}, {alike(t, "a", 40), nil, 4, 0},
		// There is nothing to find, however many beginnings there are.
		{alike(t, "a", 40, 1), times(5, 1), 4, 0}, {alike(t, "a", 40, times(40, 1)...), append(times(159, 1), 2), 4, 0},
	} {
		readings, e := sound.Read(lexicon(c.entries...), nil, c.phones, c.most)
		long := c.want == 0 && len(c.phones) < 5
		if len(readings) != c.want || long != (e == api.ErrLong) || !long && e != api.OK {
			t.Errorf("%v in %d words: %d readings and error %d, not %d", c.phones, c.most, len(readings), e, c.want)
		}
		expectReadingsInOrder(t, readings)
	}
}

// TestReadAnyChoices checks that neither the number of choices of entries nor the lengths of pronunciations limit Read.
func TestReadAnyChoices(t *testing.T) {
	l := lexicon(slices.Concat(variants("a", 20), variants("b", 20))...)
	readings, e := sound.Read(l, nil, []int{1, 1, 1, 2, 1, 3, 1, 20}, 4)
	if e != api.OK || len(readings) != 16 || showReadings(readings[:2]) != "a a a a (1/160000), a a a b (1/160000)" {
		t.Errorf("%s and error %d", showReadings(readings), e)
	}
	l = made(t, entry(t, "a", "1", times(40, 1)...))
	grow := []api.Rewrite{{From: []int{1}, To: times(4, 1), Weight: f(t, "1/2")}}
	readings, e = sound.Read(l, grow, times(400, 1), 4)
	if e != api.OK || len(readings) != 1 || len(readings[0].Words) != 4 {
		t.Errorf("%s and error %d", showReadings(readings), e)
	}
	readings, e = sound.Read(l, grow, times(160, 1), 4)
	if e != api.OK || showReadings(readings) != "a (1/1099511627776), a a a a (1/1461501637330902918203684832716283019655932542976)" {
		t.Errorf("%s and error %d", showReadings(readings), e)
	}
}

func TestHomophones(t *testing.T) {
	show := func(sets [][]string) string {
		var list []string
		for _, set := range sets {
			list = append(list, strings.Join(set, " "))
		}
		return strings.Join(list, ", ")
	}
	for _, c := range []struct {
		entries []api.Entry
		want    string
	}{
		{nil, ""}, {example(t).Entries, ""}, {[]api.Entry{entry(t, "b", "1", 3), entry(t, "c", "1", 3)}, "b c"},
		{[]api.Entry{entry(t, "d", "1", 1), entry(t, "c", "1", 2, 1), entry(t, "b", "1", 1), entry(t, "a", "1", 2), entry(t, "a", "1", 2, 1), entry(t, "e", "1", 2), entry(t, "A", "1", 1)}, "A b d, a e, a c"},
		{[]api.Entry{entry(t, "b", "1"), entry(t, "a", "1"), entry(t, "c", "1", 1, 1), entry(t, "a", "1", 1)}, "a b"},
		// Each list of phones has its set, also if others have the same one.
		{[]api.Entry{entry(t, "a", "1", 9), entry(t, "b", "3", 9), entry(t, "a", "1", 10), entry(t, "b", "1", 10), entry(t, "b", "1", 9, 1), entry(t, "a", "1", 9, 1)}, "a b, a b, a b"},
	} {
		if sets, e := sound.Homophones(made(t, c.entries...)); e != api.OK || show(sets) != c.want {
			t.Errorf("%v: %s and error %d, not %s", c.entries, show(sets), e, c.want)
		}
	}
	sets, e := sound.Homophones(lexicon(manyWords(1000)...))
	if e != api.OK || len(sets) != 200 || show(sets[:1]) != "10000 10200 10400 10600 10800" {
		t.Errorf("%s and error %d", show(sets), e)
	}
	for _, l := range []api.Lexicon{lexicon(entry(t, "a", "1/2")), lexicon(manyWords(1001)...)} {
		if sets, e := sound.Homophones(l); e != api.ErrArg || len(sets) > 0 {
			t.Errorf("%s and error %d", show(sets), e)
		}
	}
}

// TestHomophonesAreRead checks that, without rules, homophones are readings of the same phones.
func TestHomophonesAreRead(t *testing.T) {
	r := rand.New(rand.NewSource(9))
	for range 100 {
		l := randomLexicon(t, r, 4, 1)
		sets, e := sound.Homophones(l)
		if e != api.OK {
			t.Fatal(e)
		}
		var want [][]string
		for _, phones := range [][]int{nil, {1}, {2}, {3}} {
			readings, _ := sound.Read(l, nil, phones, 1)
			var words []string
			for _, x := range readings {
				words = append(words, x.Words...)
			}
			slices.Sort(words)
			if len(words) > 1 {
				want = append(want, words)
			}
		}
		if !slices.EqualFunc(sets, want, slices.Equal) {
			t.Errorf("%s: %v, not %v", showLexicon(l), sets, want)
		}
	}
}
