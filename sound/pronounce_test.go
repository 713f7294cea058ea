// Tests of P5.3: Pronounce, Weight.

package sound_test

import (
	"math/big"
	"math/rand"
	"slices"
	"strings"
	"testing"

	"earshot/api"
	"earshot/frac"
	"earshot/sound"
)

func TestPronounce(t *testing.T) {
	l := made(t, entry(t, "a", "1", 1), entry(t, "a", "1", 2), entry(t, "b", "1", 3), entry(t, "e", "1"), entry(t, "e", "2", 3), entry(t, "n", "1"))
	over := []api.Rewrite{{From: []int{1, 3}, To: []int{5}, Left: []int{3}, Weight: f(t, "1/2")}}
	for _, c := range []struct {
		rules       []api.Rewrite
		words, want string
	}{
		{toFour(t), "a b", "2 3 (1/2), 1 3 (1/3), 4 3 (1/6)"}, {toFour(t), "", " (1)"}, {nil, "", " (1)"}, {nil, "a", "1 (1/2), 2 (1/2)"},
		{toFour(t), "a", "1 (1/2), 2 (1/2)"}, {toFour(t), "b a", "3 1 (1/2), 3 2 (1/2)"}, {nil, "e e", "3 (4/9), 3 3 (4/9),  (1/9)"},
		// Rules reach over words, also over empty ones.
		{toFour(t), "a n b", "2 3 (1/2), 1 3 (1/3), 4 3 (1/6)"}, {toFour(t), "a n n n b n", "2 3 (1/2), 1 3 (1/3), 4 3 (1/6)"}, {toFour(t), "n", " (1)"},
		{over, "b n a n e", "3 2 3 (1/3), 3 1 (1/6), 3 1 3 (1/6), 3 2 (1/6), 3 5 (1/6)"},
		{over, "a e", "1 3 (1/3), 2 3 (1/3), 1 (1/6), 2 (1/6)"},
		// Several choices are pronounced alike.
		{[]api.Rewrite{{From: []int{2}, To: []int{1}, Weight: f(t, "1")}}, "a a", "1 1 (1)"},
		{[]api.Rewrite{{From: []int{2}, To: []int{1}, Weight: f(t, "1/3")}}, "a", "1 (2/3), 2 (1/3)"},
	} {
		if forms, e := sound.Pronounce(l, c.rules, strings.Fields(c.words)); e != api.OK || showForms(forms) != c.want {
			t.Errorf("%s: %s and error %d, not %s", c.words, showForms(forms), e, c.want)
		}
	}
}

// TestPronounceDefinition compares with the definition, and checks that the sum is 1.
func TestPronounceDefinition(t *testing.T) {
	r := rand.New(rand.NewSource(4))
	for range 1500 {
		l, rules, words := randomLexicon(t, r, 3, 3), randomRules(r, 4), randomWords(r, 3, 4)
		forms, e := sound.Pronounce(l, rules, words)
		expectForms(t, showLexicon(l)+" "+strings.Join(words, " "), forms, e, pronunciationsOf(l, rules, words))
		if !isOne(total(forms)) {
			t.Errorf("%s: %s", words, showForms(forms))
		}
	}
}

// TestPronounceTogether checks that, without rules, the pronunciations of two lists have the sums of products of the weights of both.
func TestPronounceTogether(t *testing.T) {
	r := rand.New(rand.NewSource(5))
	for range 300 {
		l, a, b := randomLexicon(t, r, 3, 2), randomWords(r, 3, 3), randomWords(r, 3, 3)
		first, e1 := sound.Pronounce(l, nil, a)
		second, e2 := sound.Pronounce(l, nil, b)
		if e1 != api.OK || e2 != api.OK {
			t.Fatal(e1, e2)
		}
		want := weights{}
		for _, x := range first {
			for _, y := range second {
				want.add(spelled(slices.Concat(x.Phones, y.Phones)), new(big.Rat).Mul(valueOf(x.Weight), valueOf(y.Weight)))
			}
		}
		forms, e := sound.Pronounce(l, nil, slices.Concat(a, b))
		expectForms(t, "two lists", forms, e, want)
	}
}

func TestWeight(t *testing.T) {
	l := example(t)
	for _, c := range []struct {
		words, want string
		phones      []int
	}{
		{"a b", "1/6", []int{4, 3}}, {"a b", "0", []int{4}}, {"a b", "1/3", []int{1, 3}}, {"a b", "1/2", []int{2, 3}}, {"a b", "0", []int{4, 3, 1}}, {"a b", "0", nil},
		{"a b", "0", []int{3, 4}}, {"", "1", nil}, {"", "0", []int{1}}, {"b", "1", []int{3}}, {"b", "0", times(400, 3)}, {"a a", "1/4", []int{1, 2}},
	} {
		if w, e := sound.Weight(l, toFour(t), strings.Fields(c.words), c.phones); e != api.OK || frac.Text(w) != c.want || !isCanonical(w) {
			t.Errorf("%s, %v: %s and error %d, not %s", c.words, c.phones, frac.Text(w), e, c.want)
		}
	}
}

// TestWeightDefinition compares with the definition, for all pronunciations and for other lists.
func TestWeightDefinition(t *testing.T) {
	r := rand.New(rand.NewSource(6))
	for range 300 {
		l, rules, words := randomLexicon(t, r, 3, 3), randomRules(r, 4), randomWords(r, 3, 3)
		want := pronunciationsOf(l, rules, words)
		forms, _ := sound.Pronounce(l, rules, words)
		lists := [][]int{randomPhones(r, 5), randomPhones(r, 5), randomPhones(r, 9)}
		for _, x := range forms {
			lists = append(lists, x.Phones)
		}
		for _, phones := range lists {
			weight := want[spelled(phones)]
			if weight == nil {
				weight = new(big.Rat)
			}
			if got, e := sound.Weight(l, rules, words, phones); e != api.OK || valueOf(got).Cmp(weight) != 0 || !isCanonical(got) {
				t.Errorf("%s, %v: %s and error %d, not %s", words, phones, frac.Text(got), e, weight)
			}
		}
	}
}

// refused are arguments that Pronounce, Weight and, for the first errors, Read refuse.
type refused struct {
	l      api.Lexicon
	rules  []api.Rewrite
	words  []string
	phones []int
	want   api.Errno
}

func TestPronounceErrors(t *testing.T) {
	l, rules := example(t), toFour(t)
	wrong := lexicon(entry(t, "a", "1/2", 1))
	list := []refused{
		{l, rules, []string{"c"}, nil, api.ErrNone}, {l, rules, []string{"a", ""}, nil, api.ErrNone}, {l, rules, []string{"a b"}, nil, api.ErrNone}, {api.Lexicon{}, nil, []string{"a"}, nil, api.ErrNone},
		{l, rules, append(slices.Repeat([]string{"a"}, 39), "c"), nil, api.ErrNone}, {l, rules, slices.Repeat([]string{"b"}, 41), nil, api.ErrArg}, {l, rules, slices.Repeat([]string{"c"}, 41), nil, api.ErrArg},
		{wrong, rules, []string{"a"}, nil, api.ErrArg}, {wrong, rules, []string{"c"}, nil, api.ErrArg}, {wrong, rules, nil, nil, api.ErrArg},
		{l, rules, slices.Repeat([]string{"a"}, 13), nil, api.ErrLong}, {l, nil, slices.Repeat([]string{"a"}, 40), times(400, 1), api.ErrLong},
	}
	for _, x := range wrongRules(t) {
		list = append(list, refused{l, x, []string{"c"}, nil, api.ErrArg})
	}
	for _, c := range list {
		if forms, e := sound.Pronounce(c.l, c.rules, c.words); e != c.want || len(forms) > 0 {
			t.Errorf("Pronounce %v: %s and error %d, not %d", c, showForms(forms), e, c.want)
		}
		if w, e := sound.Weight(c.l, c.rules, c.words, c.phones); e != c.want || !isZero(w) {
			t.Errorf("Weight %v: %s and error %d, not %d", c, frac.Text(w), e, c.want)
		}
	}
	for _, n := range wrongPhones() {
		for _, words := range [][]string{{"a"}, {"c"}, nil} {
			if w, e := sound.Weight(l, rules, words, []int{1, n}); e != api.ErrArg || !isZero(w) {
				t.Errorf("Weight of %s and %d: %s and error %d", words, n, frac.Text(w), e)
			}
		}
	}
	if w, e := sound.Weight(l, rules, []string{"c"}, times(401, 1)); e != api.ErrArg || !isZero(w) {
		t.Errorf("Weight of 401 phones: %s and error %d", frac.Text(w), e)
	}
}

// TestChoices checks how many choices of entries there may be, however few pronunciations they have.
func TestChoices(t *testing.T) {
	l := lexicon(slices.Concat(variants("a", 992), variants("b", 5), variants("c", 2), variants("d", 1))...)
	everything := deleting(t, "1", upTo(1, 50)...)
	words := func(s string) []string { return strings.Split(s, "") }
	for _, c := range []struct {
		words []string
		want  api.Errno
	}{
		{words("ab"), api.OK}, {words("bbbbccc"), api.OK}, {words("dddddabdddddd"), api.OK}, {words("cccccccccccc"), api.OK},
		{words("abc"), api.ErrLong}, {words("bbbbcccc"), api.ErrLong}, {words("ccccccccccccc"), api.ErrLong}, {words("aa"), api.ErrLong}, {slices.Repeat([]string{"a"}, 40), api.ErrLong},
	} {
		forms, e := sound.Pronounce(l, nil, c.words)
		if e != c.want || e == api.OK && !isOne(total(forms)) {
			t.Errorf("%s: %d forms and error %d, not %d", c.words, len(forms), e, c.want)
		}
		if w, e := sound.Weight(l, nil, c.words, nil); e != c.want || !isZero(w) {
			t.Errorf("%s: %s and error %d, not %d", c.words, frac.Text(w), e, c.want)
		}
	}
	l = lexicon(slices.Concat(variants("b", 5), variants("c", 2))...)
	if forms, e := sound.Pronounce(l, everything, words("bbbbccc")); e != api.OK || showForms(forms) != " (1)" {
		t.Errorf("%s and error %d", showForms(forms), e)
	}
	if forms, e := sound.Pronounce(l, everything, words("bbbbcccc")); e != api.ErrLong || len(forms) > 0 {
		t.Errorf("%s and error %d", showForms(forms), e)
	}
}

// TestLongChoices checks how many phones a choice may have, and that one that is too long is enough.
func TestLongChoices(t *testing.T) {
	l := made(t, entry(t, "a", "1", times(40, 1)...), entry(t, "b", "1", 2), entry(t, "c", "1", 3), entry(t, "c", "1", 3, 3), entry(t, "d", "1", 4, 4), entry(t, "d", "1", 5), entry(t, "e", "1"), entry(t, "f", "1", times(39, 6)...))
	shorter := []api.Rewrite{{From: []int{1, 1}, Weight: f(t, "1")}}
	for words, want := range map[string]api.Errno{
		"aaaaaaaaaa": api.OK, "aaaaaaaaaaee": api.OK, "aaaaaaaaafb": api.OK, "aaaaaaaaabc": api.OK, "aaaaaaaaabd": api.OK, "ecaaaaaaaaabe": api.OK,
		"aaaaaaaaaab": api.ErrLong, "aaaaaaaaaac": api.ErrLong, "aaaaaaaaafc": api.ErrLong, "aaaaaaaaafd": api.ErrLong, "baaaaaaaaeeaa": api.ErrLong, strings.Repeat("a", 40): api.ErrLong,
	} {
		for _, rules := range [][]api.Rewrite{nil, shorter} {
			if _, e := sound.Pronounce(l, rules, strings.Split(words, "")); e != want {
				t.Errorf("%s: error %d, not %d", words, e, want)
			}
			if w, e := sound.Weight(l, rules, strings.Split(words, ""), times(3, 7)); e != want || !isZero(w) {
				t.Errorf("%s: %s and error %d, not %d", words, frac.Text(w), e, want)
			}
		}
	}
}

// TestManyPronunciations checks how many pronunciations there may be, and how long they may be; Weight does not mind.
func TestManyPronunciations(t *testing.T) {
	groups := inGroups(4, 4, 4, 4, 1, 1, 1) // with 5000 results
	l := made(t, entry(t, "a", "1", groups...), entry(t, "b", "1", groups...), entry(t, "b", "1", 50), entry(t, "c", "1", groups...), entry(t, "c", "1", 9, 9, 9, 9, 9, 9, 9))
	rules := deleting(t, "1/3", 1)
	for word, want := range map[string]int{"a": 5000, "b": 0, "c": 5000} {
		forms, e := sound.Pronounce(l, rules, []string{word})
		if len(forms) != want || want == 0 && e != api.ErrLong || want > 0 && (e != api.OK || !isOne(total(forms))) {
			t.Errorf("%s: %d forms and error %d, not %d forms", word, len(forms), e, want)
		}
		if w, e := sound.Weight(l, rules, []string{word}, groups); e != api.OK || frac.Sign(w) <= 0 {
			t.Errorf("%s: %s and error %d", word, frac.Text(w), e)
		}
	}
	if w, e := sound.Weight(l, rules, []string{"b"}, []int{50}); e != api.OK || frac.Text(w) != "1/2" {
		t.Errorf("%s and error %d", frac.Text(w), e)
	}
	l = made(t, entry(t, "a", "1", times(40, 1)...), entry(t, "b", "1", 2))
	double := []api.Rewrite{{From: []int{1}, To: []int{1, 1}, Weight: f(t, "1")}, {From: []int{2}, To: []int{2, 2}, Weight: f(t, "1/2")}}
	five, six := strings.Split("aaaaa", ""), strings.Split("aaaaab", "")
	if forms, e := sound.Pronounce(l, double, five); e != api.OK || len(forms) != 1 || len(forms[0].Phones) != 400 {
		t.Errorf("%s and error %d", showForms(forms), e)
	}
	if forms, e := sound.Pronounce(l, double, six); e != api.ErrLong || len(forms) > 0 {
		t.Errorf("%s and error %d", showForms(forms), e)
	}
	if w, e := sound.Weight(l, double, strings.Split("aaaab", ""), append(times(320, 1), 2, 2)); e != api.OK || frac.Text(w) != "1/2" {
		t.Errorf("%s and error %d", frac.Text(w), e)
	}
	if w, e := sound.Weight(l, double, six, times(400, 1)); e != api.OK || !isZero(w) {
		t.Errorf("%s and error %d", frac.Text(w), e)
	}
}
