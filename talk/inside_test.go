package talk

import (
	"math/rand"
	"slices"
	"testing"

	"earshot/api"
	"earshot/frac"
)

// quiet is a setup with a gate, and with words that nobody says.
func quiet(t *testing.T, g api.Gate) api.Setup {
	t.Helper()
	one := []api.Frac{frac.Of(1)}
	s := api.Setup{
		Rate:   1,
		Gate:   g,
		Recipe: api.Recipe{Den: 1, Size: 1, Step: api.MaxFrame, Window: api.WindowFlat, Points: 1, Edges: []int{0, 1}},
		Book:   [][]int{{0}},
		Names:  []string{"word"},
		Plan:   api.Plan{Slots: []api.Slot{{Name: "a", Values: []string{"b"}}}},
		Most:   1,
	}
	s.Task.Phones = []api.Model{{Start: one, Move: [][]api.Frac{{{}}}, End: one, Say: [][]api.Frac{one}}}
	s.Task.Words = [][]api.Variant{{{Phones: []int{1}, Weight: frac.Of(1)}}}
	s.Task.Language = api.Language{Table: api.Table{Order: 1, Words: 1}, By: api.Typed}
	if e := Check(s); e != api.OK {
		t.Fatalf("error %d", e)
	}
	return s
}

// TestHeard checks that a session keeps no more samples than a turn can have: when nobody speaks, those with which the next segment may begin; when somebody does, as many as a recording may have, and those of the silence behind them.
func TestHeard(t *testing.T) {
	r := rand.New(rand.NewSource(20))
	for _, c := range []struct {
		g     api.Gate
		piece int
	}{
		{api.Gate{Block: 5, High: 1, Low: 1, Rise: 3, Fall: 4, Lead: 2, Longest: 100000}, 20000},
		{api.Gate{Block: 1, High: 1, Low: 1, Rise: 1, Fall: 1, Longest: 2}, 50},
		{api.Gate{Block: 100, High: 1, Low: 0, Rise: 2, Fall: 9, Lead: 30, Longest: 10000}, 20000},
	} {
		g := c.g
		a, _ := Start(quiet(t, g))
		before, after := (g.Rise+g.Lead)*g.Block, api.MaxSamples+g.Fall*g.Block
		for i := range 400 {
			x := slices.Repeat([]int{i / 8 % 2}, r.Intn(1+r.Intn(c.piece)))
			if _, e := a.Feed(x...); e != api.OK {
				t.Fatalf("error %d", e)
			}
			most := after
			if _, speaks := a.own.listener.At(); !speaks {
				most = before
			}
			if len(a.own.heard) > most {
				t.Fatalf("gate %v: %d samples, not %d", g, len(a.own.heard), most)
			}
		}
		if _, e := a.Close(); e != api.OK || len(a.own.heard) > 0 {
			t.Errorf("gate %v: %d samples and error %d at the end", g, len(a.own.heard), e)
		}
	}
}

// TestOtherPanics checks that a turn has nothing if a step panics for another reason than an error.
func TestOtherPanics(t *testing.T) {
	turn, features := (*session)(nil).turn(api.Segment{From: 3, To: 5})
	if turn.From != 3 || turn.To != 5 || len(turn.Words) > 0 || len(features) > 0 {
		t.Errorf("%v, features %v", turn, features)
	}
	a, _ := Start(quiet(t, api.Gate{Block: 1, High: 1, Low: 1, Rise: 1, Fall: 1, Longest: 2}))
	a.own.Names = nil // so that the name of a word is not found
	turns, e := a.Feed(1, 0)
	speakers, _ := a.Speakers()
	if e != api.OK || len(turns) != 1 || turns[0].To != 1 || len(turns[0].Words) > 0 || len(speakers) > 0 {
		t.Errorf("turns %v, speakers %v and error %d", turns, speakers, e)
	}
}
