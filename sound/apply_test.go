// Tests of P5.2: Rules, Apply.

package sound_test

import (
	"math/big"
	"math/rand"
	"slices"
	"testing"

	"earshot/api"
	"earshot/frac"
	"earshot/sound"
)

func TestRules(t *testing.T) {
	one, third := f(t, "1"), f(t, "1/3")
	for _, rules := range [][]api.Rewrite{
		nil, {}, toFour(t), {{From: []int{1}, Weight: one}}, {{From: times(4, 200), To: times(4, 200), Weight: third}},
		{{From: []int{1}, Left: upTo(0, 199), Right: upTo(1, 200), Weight: third}}, {{From: []int{1}, Left: []int{0}, Right: []int{0, 200}, Weight: third}},
		{{From: []int{1}, To: []int{1}, Weight: api.Frac{N: []uint32{0, 3, 0}, D: []uint32{0, 3}}}},
		slices.Repeat(toFour(t), 50),
	} {
		if !sound.Rules(rules) {
			t.Errorf("%v are rules", rules)
		}
	}
	if sound.Rules(slices.Repeat(toFour(t), 51)) {
		t.Error("51 rules are too many")
	}
}

// wrongRules returns lists of rules of which one is not as defined.
func wrongRules(t *testing.T) [][]api.Rewrite {
	t.Helper()
	one := f(t, "1")
	list := []api.Rewrite{
		{}, {Weight: one}, {To: []int{1}, Weight: one}, {From: times(5, 1), Weight: one}, {From: []int{1}, To: times(5, 1), Weight: one},
		{From: []int{1}}, {From: []int{1}, Weight: f(t, "-1/2")}, {From: []int{1}, Weight: f(t, "2")}, {From: []int{1}, Weight: f(t, "1000001/1000000")},
		{From: []int{1}, Weight: api.Frac{N: []uint32{0, 0}, D: []uint32{3}}},
	}
	for _, n := range wrongPhones() {
		list = append(list, api.Rewrite{From: []int{n}, Weight: one}, api.Rewrite{From: []int{1, n}, Weight: one}, api.Rewrite{From: []int{1}, To: []int{n}, Weight: one}, api.Rewrite{From: []int{1}, To: []int{1, n}, Weight: one})
		if n != 0 {
			list = append(list, api.Rewrite{From: []int{1}, Left: []int{n}, Weight: one}, api.Rewrite{From: []int{1}, Right: []int{n}, Weight: one})
		}
	}
	for _, context := range [][]int{upTo(0, 200), {1, 1}, {2, 1}, {0, 0}, {1, 2, 2}, {1, 3, 2}, {-1, 1}, {1, 201}} {
		list = append(list, api.Rewrite{From: []int{1}, Left: context, Weight: one}, api.Rewrite{From: []int{1}, Right: context, Weight: one})
	}
	all := [][]api.Rewrite{slices.Repeat(toFour(t), 51)}
	for _, x := range list {
		all = append(all, []api.Rewrite{x}, append(toFour(t), x), append([]api.Rewrite{x}, toFour(t)...))
	}
	return all
}

func TestWrongRules(t *testing.T) {
	for _, rules := range wrongRules(t) {
		if sound.Rules(rules) {
			t.Errorf("%v are no rules", rules)
		}
		for _, phones := range [][]int{nil, {1}, {-1}} {
			if forms, e := sound.Apply(rules, phones); e != api.ErrArg || len(forms) > 0 {
				t.Errorf("%v applied to %v: %s and error %d", rules, phones, showForms(forms), e)
			}
		}
	}
	for _, rules := range [][]api.Rewrite{nil, toFour(t)} {
		for _, n := range wrongPhones() {
			for _, phones := range [][]int{{n}, {1, n}, {n, 1}} {
				if forms, e := sound.Apply(rules, phones); e != api.ErrArg || len(forms) > 0 {
					t.Errorf("%v: %s and error %d", phones, showForms(forms), e)
				}
			}
		}
		if forms, e := sound.Apply(rules, times(401, 1)); e != api.ErrArg || len(forms) > 0 {
			t.Errorf("401 phones: %d forms and error %d", len(forms), e)
		}
	}
}

func TestApply(t *testing.T) {
	half, one := f(t, "1/2"), f(t, "1")
	swap := []api.Rewrite{{From: []int{1, 2}, To: []int{2, 1}, Weight: half}, {From: []int{2, 3}, To: []int{9}, Weight: half}}
	edges := []api.Rewrite{{From: []int{1}, To: []int{5}, Left: []int{0}, Weight: one}, {From: []int{1}, To: []int{6}, Right: []int{0}, Weight: one}}
	first := []api.Rewrite{{From: []int{1}, To: []int{2}, Weight: half}, {From: []int{1}, To: []int{3}, Weight: one}}
	chain := []api.Rewrite{{From: []int{1}, To: []int{2}, Weight: one}, {From: []int{2}, To: []int{3}, Left: []int{1}, Weight: one}, {From: []int{4}, To: []int{1}, Left: []int{2}, Weight: one}}
	pair := []api.Rewrite{{From: []int{1, 1}, To: []int{2}, Weight: one}}
	overlap := []api.Rewrite{{From: []int{1, 1}, To: []int{1}, Weight: half}}
	for _, c := range []struct {
		rules  []api.Rewrite
		phones []int
		want   string
	}{
		{toFour(t), []int{1, 3}, "1 3 (2/3), 4 3 (1/3)"}, {toFour(t), []int{1}, "1 (1)"}, {nil, []int{1, 2}, "1 2 (1)"},
		{toFour(t), []int{1, 3, 1, 3}, "1 3 1 3 (4/9), 1 3 4 3 (2/9), 4 3 1 3 (2/9), 4 3 4 3 (1/9)"},
		{nil, nil, " (1)"}, {toFour(t), nil, " (1)"}, {toFour(t), []int{3, 1, 2, 1}, "3 1 2 1 (1)"},
		// A rule goes on behind its From; one that is not applied goes on with the next phone.
		{swap, []int{1, 2, 3}, "2 1 3 (1/2), 1 2 3 (1/4), 1 9 (1/4)"},
		{pair, []int{1, 1, 1}, "2 1 (1)"}, {pair, []int{1, 1, 1, 1}, "2 2 (1)"},
		// Several ways write the same.
		{overlap, []int{1, 1, 1}, "1 1 (3/4), 1 1 1 (1/4)"},
		// The beginning and the end are 0.
		{edges, []int{1}, "5 (1)"}, {edges, []int{1, 1}, "5 6 (1)"}, {edges, []int{1, 1, 1}, "5 1 6 (1)"}, {edges, []int{2, 1, 2}, "2 1 2 (1)"},
		// Only the first rule that matches is applied or not.
		{first, []int{1}, "1 (1/2), 2 (1/2)"},
		// The contexts are those of the list, not of what is written.
		{chain, []int{1, 2, 4}, "2 3 1 (1)"}, {chain, []int{2, 2}, "2 2 (1)"},
		{deleting(t, "1", 1), []int{1, 1}, " (1)"}, {deleting(t, "1/2", 1), []int{1, 1}, "1 (1/2),  (1/4), 1 1 (1/4)"},
		{deleting(t, "1/2", 200), []int{199, 200}, "199 (1/2), 199 200 (1/2)"},
	} {
		if forms, e := sound.Apply(c.rules, c.phones); e != api.OK || showForms(forms) != c.want {
			t.Errorf("%v applied to %v: %s and error %d, not %s", c.rules, c.phones, showForms(forms), e, c.want)
		}
	}
}

// TestApplyDefinition compares with the definition, and checks that the sum is 1.
func TestApplyDefinition(t *testing.T) {
	r := rand.New(rand.NewSource(2))
	for range 3000 {
		rules, phones := randomRules(r, 4), randomPhones(r, 7)
		forms, e := sound.Apply(rules, phones)
		expectForms(t, spelled(phones), forms, e, resultsOf(rules, phones))
		if !isOne(total(forms)) {
			t.Errorf("%v applied to %v: %s", rules, phones, showForms(forms))
		}
	}
}

// TestNothingMatches checks that the only result is the list itself without rules, and with rules that match nowhere.
func TestNothingMatches(t *testing.T) {
	nowhere := []api.Rewrite{{From: []int{4}, Weight: f(t, "1")}, {From: []int{1}, Left: []int{4}, Weight: f(t, "1")}, {From: []int{2, 3}, Right: []int{200}, Weight: f(t, "1/2")}, {From: []int{1, 1, 1, 1}, Left: []int{0}, Right: []int{5}, Weight: f(t, "1")}}
	r := rand.New(rand.NewSource(3))
	lists := [][]int{nil, times(400, 1), slices.Repeat([]int{1, 2, 3}, 133), times(3, 1), {2, 3}}
	for range 50 {
		lists = append(lists, randomPhones(r, 30))
	}
	for _, rules := range [][]api.Rewrite{nil, {}, nowhere} {
		for _, phones := range lists {
			if forms, e := sound.Apply(rules, phones); e != api.OK || len(forms) != 1 || !slices.Equal(forms[0].Phones, phones) || frac.Text(forms[0].Weight) != "1" {
				t.Errorf("%v: %s and error %d", phones, showForms(forms), e)
			}
		}
	}
}

// inGroups returns groups of phones with so many elements, which are separated by others, for rules that delete phones: the number of results is the product of the numbers that are greater by 1.
func inGroups(sizes ...int) []int {
	var list []int
	for _, n := range sizes {
		list = append(append(list, times(n, 1)...), 9)
	}
	return list
}

func TestApplyMany(t *testing.T) {
	rules := deleting(t, "1/3", 1)
	for _, c := range []struct {
		phones []int
		want   int
	}{
		{inGroups(4, 4, 4, 4, 1, 1, 1), 5000}, {inGroups(4, 4, 4, 4, 1, 1, 2), 0}, {inGroups(slices.Repeat([]int{1}, 12)...), 4096}, {inGroups(slices.Repeat([]int{1}, 13)...), 0},
		{append(times(12, 9), inGroups(16, 16, 16)...), 4913}, {append(inGroups(16, 17, 16), times(300, 2)...), 0}, {append(inGroups(slices.Repeat([]int{1}, 12)...), times(376, 2)...), 4096}, {times(400, 2), 1}, {inGroups(slices.Repeat([]int{1}, 200)...), 0},
	} {
		forms, e := sound.Apply(rules, c.phones)
		if c.want == 0 && e != api.ErrLong || c.want > 0 && (e != api.OK || !isOne(total(forms))) || len(forms) != c.want {
			t.Errorf("%v: %d forms and error %d, not %d forms", c.phones, len(forms), e, c.want)
		}
		expectOrder(t, "many forms", forms)
	}
}

// TestApplyLong checks lists that become longer than others may be.
func TestApplyLong(t *testing.T) {
	double := func(weight string) []api.Rewrite {
		return []api.Rewrite{{From: []int{1, 2}, Weight: f(t, "1")}, {From: []int{1}, To: []int{3, 3}, Weight: f(t, weight)}}
	}
	for _, c := range []struct {
		rules  []api.Rewrite
		phones []int
		want   int
	}{
		{double("1"), times(200, 1), 400}, {double("1"), times(201, 1), 0}, {double("1"), append(times(200, 1), 3), 0},
		{double("1/2"), append(times(399, 3), 1), 0}, {double("1/2"), append(times(398, 3), 1), 399},
		// A rule with the weight 1 leaves no way on which the list stays too long.
		{double("1"), append(append(times(199, 1), 1, 2), 3, 3), 400}, {double("1"), append(append(times(199, 1), 1, 2), 3, 3, 3), 0},
		{double("1"), append(times(398, 3), 1, 2), 398},
	} {
		forms, e := sound.Apply(c.rules, c.phones)
		if c.want == 0 && (e != api.ErrLong || len(forms) > 0) || c.want > 0 && (e != api.OK || len(forms[0].Phones) != c.want) {
			t.Errorf("%v: %s and error %d, not %d phones", c.phones, showForms(forms), e, c.want)
		}
	}
}

// TestApplyManyWays checks that many ways which write the same take no more time than there are results.
func TestApplyManyWays(t *testing.T) {
	same := []api.Rewrite{{From: []int{1}, To: []int{1}, Weight: f(t, "1/3")}}
	if forms, e := sound.Apply(same, times(400, 1)); e != api.OK || showForms(forms) != spelled(times(400, 1))+" (1)" {
		t.Errorf("%s and error %d", showForms(forms), e)
	}
	// The number of phones that are left has the binomial distribution.
	forms, e := sound.Apply(deleting(t, "1/3", 1), times(60, 1))
	if e != api.OK || len(forms) != 61 || len(forms[0].Phones) != 40 {
		t.Fatalf("%s and error %d", showForms(forms), e)
	}
	for _, x := range forms {
		n := int64(len(x.Phones))
		want := new(big.Rat).SetFrac(new(big.Int).Lsh(new(big.Int).Binomial(60, n), uint(n)), new(big.Int).Exp(big.NewInt(3), big.NewInt(60), nil))
		if want.Cmp(valueOf(x.Weight)) != 0 {
			t.Errorf("%d phones: %s, not %s", n, frac.Text(x.Weight), want)
		}
	}
}
