// Tests of P10.4 (Start, Feed, Close, Turns, Speakers), P10.5 (Replay) and P0.7.

package talk_test

import (
	"math/rand"
	"slices"
	"strings"
	"testing"

	"earshot/api"
	"earshot/feature"
	"earshot/talk"
)

// randomModel returns a model with so many states and symbols.
func randomModel(r *rand.Rand, states, symbols int) api.Model {
	m := api.Model{Start: randomDistribution(r, states)}
	for range states {
		row := randomDistribution(r, states+1)
		m.Move, m.End = append(m.Move, row[:states:states]), append(m.End, row[states])
		m.Say = append(m.Say, randomDistribution(r, symbols))
	}
	return m
}

// randomDistribution returns n numbers that are a distribution. Often some of them are 0.
func randomDistribution(r *rand.Rand, n int) []api.Frac {
	parts, sum := make([]int, n), 0
	for i := range parts {
		parts[i] = max(r.Intn(5)-1, 0)
		sum += parts[i]
	}
	if sum == 0 {
		parts[r.Intn(n)], sum = 1, 1
	}
	list := make([]api.Frac, n)
	for i, k := range parts {
		list[i] = fraction(r, k, sum)
	}
	return list
}

// randomSpeech returns samples in runs of loud and quiet ones.
func randomSpeech(r *rand.Rand, n int) []int {
	var x []int
	for len(x) < n {
		loud := 1 + 29*r.Intn(2)
		for range 1 + r.Intn(9) {
			x = append(x, r.Intn(2*loud+1)-loud)
		}
	}
	return x[:n]
}

// somePlan returns a plan with one or two slots.
func somePlan(t *testing.T, r *rand.Rand) api.Plan {
	t.Helper()
	p := two(t)
	p.Slots = p.Slots[:1+r.Intn(2)]
	for i := range p.Slots {
		least, sure := r.Intn(5), r.Intn(5)
		p.Slots[i].Least, p.Slots[i].Sure = fraction(r, min(least, sure), 4), fraction(r, max(least, sure), 4)
	}
	p.Patience, p.Prompt = r.Intn(5), r.Intn(9)
	p.Need = r.Intn(p.Prompt + 1)
	return p
}

// randomSetup returns a valid setup, of which segments have few frames.
func randomSetup(t *testing.T, r *rand.Rand) api.Setup {
	t.Helper()
	s := api.Setup{Rate: 1 + r.Intn(9), Plan: somePlan(t, r), Most: 1 + r.Intn(4), Limit: fraction(r, r.Intn(2000), 1+r.Intn(3))}
	s.Gate = api.Gate{Block: 1 + r.Intn(3), High: 100 + r.Intn(100), Low: r.Intn(100), Rise: 1 + r.Intn(3), Fall: 1 + r.Intn(3), Lead: r.Intn(4)}
	s.Gate.Longest = s.Gate.Rise + s.Gate.Fall + s.Gate.Lead + r.Intn(9)
	s.Recipe = api.Recipe{Num: r.Intn(3), Den: 2, Size: 1 + r.Intn(4), Step: 2 + r.Intn(4), Window: api.WindowKind(1 + r.Intn(3)), Points: 4, Edges: []int{0, 1, 2 + r.Intn(3)}, Cepstra: r.Intn(3), Differences: r.Intn(2) == 0}
	vectors, e := feature.Extract(api.Recording{Rate: 1, Samples: randomSpeech(r, 50)}, s.Recipe)
	expect(t, "Extract", e)
	s.Book, e = feature.Seeds(vectors, 1+r.Intn(3))
	expect(t, "Seeds", e)
	for range 1 + r.Intn(3) {
		s.Task.Phones = append(s.Task.Phones, randomModel(r, 1+r.Intn(2), len(s.Book)))
	}
	s.Names = []string{"yes", "no", "red", "blue", "small", "large", "twenty", "one", "Oh!", "color"}
	r.Shuffle(len(s.Names), func(i, j int) { s.Names[i], s.Names[j] = s.Names[j], s.Names[i] })
	s.Names = s.Names[:2+r.Intn(5)]
	for range s.Names {
		var word []api.Variant
		for _, weight := range randomDistribution(r, 1+r.Intn(2)) {
			v := api.Variant{Weight: weight}
			for range 1 + r.Intn(2) {
				v.Phones = append(v.Phones, 1+r.Intn(len(s.Task.Phones)))
			}
			word = append(word, v)
		}
		s.Task.Words = append(s.Task.Words, word)
	}
	table := counted(t, 1+r.Intn(3), len(s.Names), randomSentence(r, len(s.Names)), randomSentence(r, len(s.Names)))
	s.Task.Language = api.Language{Table: table, By: api.Added, Amount: fraction(r, 1, 1+r.Intn(3))}
	if r.Intn(2) == 0 {
		s.Task.Language = api.Language{Table: table, By: api.Mixed}
		for range table.Order + 1 {
			s.Task.Language.Mix = append(s.Task.Language.Mix, fraction(r, 1, table.Order+1))
		}
	}
	return s
}

// expectSession checks all that can be asked of a session.
func expectSession(t *testing.T, a *talk.Session, s api.Setup, want heard) {
	t.Helper()
	if got := a.Turns(); !same(got, want.turns) {
		t.Fatalf("turns: %s, not %s", brief(got), brief(want.turns))
	}
	expectStanding(t, a, want.dialogue)
	speakers, e := a.Speakers()
	if e != api.OK || !slices.Equal(speakers, speakersOf(want.groups, s.Most, valueOf(s.Limit))) {
		t.Fatalf("speakers: %v and error %d", speakers, e)
	}
}

// TestSession checks sessions against their definition, in whatever pieces the samples arrive.
func TestSession(t *testing.T) {
	r := rand.New(rand.NewSource(9))
	seen := map[string]int{}
	for range 400 {
		s, x := randomSetup(t, r), randomSpeech(r, r.Intn(150))
		want := listen(t, s, x, true)
		a, left := start(t, s), x
		longest := 1 + r.Intn(1+r.Intn(40))
		var turns []api.Turn
		for len(left) > 0 {
			n := min(r.Intn(longest+1), len(left))
			ended, e := a.Feed(left[:n]...)
			expect(t, "Feed", e)
			turns, left = append(turns, ended...), left[n:]
			if r.Intn(8) == 0 {
				expectSession(t, a, s, listen(t, s, x[:len(x)-len(left)], false))
			}
		}
		ended, e := a.Close()
		expect(t, "Close", e)
		turns = append(turns, ended...)
		if !same(turns, want.turns) {
			t.Fatalf("turns: %s, not %s", brief(turns), brief(want.turns))
		}
		expectSession(t, a, s, want)
		replayed, standing := replay(t, s, x)
		if !same(replayed, want.turns) || !same(standing, want.dialogue.stand()) {
			t.Fatalf("Replay: %s and %v, not %s and %v", brief(replayed), standing, brief(want.turns), want.dialogue.stand())
		}
		count(seen, want)
	}
	for _, what := range []string{"turns", "words", "no words", "several words", "unsure words", "numbers", "speakers", "done", "given up", "open"} {
		if seen[what] < 10 {
			t.Errorf("%s: %d times", what, seen[what])
		}
	}
}

// count counts what sessions have.
func count(seen map[string]int, h heard) {
	add := func(what string, is bool) {
		if is {
			seen[what]++
		}
	}
	for _, turn := range h.turns {
		add("turns", true)
		add("words", len(turn.Words) > 0)
		add("no words", len(turn.Words) == 0)
		add("several words", len(turn.Words) > 1)
		add("numbers", turn.Text != join(turn.Words))
		for _, w := range turn.Weights {
			add("unsure words", !atLeast(w, f2(1, 1)))
		}
	}
	add("speakers", len(h.groups) > 1)
	add("done", h.dialogue.done)
	add("given up", h.dialogue.left)
	add("open", !h.dialogue.done && !h.dialogue.left)
}

// TestTexts checks words, weights and texts of turns.
func TestTexts(t *testing.T) {
	names := []string{"red", "Red", "twenty", "one", "o'clock", strings.Repeat("a", 40)}
	s := spelled(t, color(t), names, []int{1}, []int{2}, []int{3}, []int{4}, []int{5}, []int{6, 6})
	for _, c := range []struct{ symbols, words, text string }{
		{"1", "red", "red"},
		{"1 1", "red red", "red red"},
		{"3 4", "twenty one", "21"},
		{"1 3 4 1", "red twenty one red", "red 21 red"},
		{"3 1 4", "twenty red one", "20 red 1"},
		{"2 3 4", "Red twenty one", "Red twenty one"}, // no spoken text
		{"3 4 5", "twenty one o'clock", "twenty one o'clock"},
		{"6 6", names[5], names[5]},
		{"6", "", ""}, // no path
		{"3 6 4", "", ""},
	} {
		turns, _ := replay(t, s, sound(ints(t, "0 "+c.symbols+" 0")...))
		if len(turns) != 1 || join(turns[0].Words) != c.words || turns[0].Text != c.text || turns[0].From != 1 || turns[0].To != len(ints(t, c.symbols))+1 {
			t.Errorf("%s: %s", c.symbols, brief(turns))
			continue
		}
		if !same(turns[0].Weights, slices.Repeat(fs(t, "1"), len(turns[0].Words))) {
			t.Errorf("%s: weights %v", c.symbols, turns[0].Weights)
		}
	}
}

// TestLongText checks texts that are just short enough to be written, and too long by one byte.
func TestLongText(t *testing.T) {
	s := spelled(t, color(t), []string{"first", "aa", "aaa"}, []int{1}, []int{2}, []int{3})
	many := slices.Repeat([]int{1}, 333)
	for _, c := range []struct {
		last int
		text string
	}{
		{2, strings.Repeat("1st ", 333) + "aa"},
		{3, strings.Repeat("first ", 333) + "aaa"},
	} {
		turns, _ := replay(t, s, sound(append(many, c.last)...))
		if len(turns) != 1 || len(turns[0].Words) != 334 || turns[0].Text != c.text {
			t.Errorf("the last word is %s: %q", s.Names[c.last-1], turns[0].Text)
		}
	}
}

// TestUnsure checks the parts of words, which are the weights of events.
func TestUnsure(t *testing.T) {
	s := spelled(t, color(t), []string{"red", "blue"}, []int{1}, []int{1})
	turns, standing := replay(t, s, sound(0, 1, 0))
	if len(turns) != 1 || turns[0].Text != "red" || !same(turns[0].Weights, fs(t, "1/2")) {
		t.Errorf("two words that sound alike: %v", turns)
	}
	if standing.Slots[0].Status != api.StatusGuessed || standing.Slots[0].Value != "red" {
		t.Errorf("two words that sound alike: %v", standing)
	}
	s.Task.Language.Table.List = []api.Gram{{Words: []int{2}, N: 1}}
	turns, _ = replay(t, s, sound(0, 1, 0))
	if len(turns) != 1 || turns[0].Text != "blue" || !same(turns[0].Weights, fs(t, "4/5")) { // weights 1/6 and 2/3, and the mark's
		t.Errorf("the second word is more usual: %v", turns)
	}
}

// TestEvents checks which events turns are, by what they do to the dialogue.
func TestEvents(t *testing.T) {
	for _, c := range []struct{ symbols, want string }{
		{"0", "empty; 0 failed, 0 cut"},
		{"0 3 0", "grounded red; 0 failed, 1 cut, done"},
		{"0 5 3 5 0", "grounded red; 0 failed, 1 cut, done"},
		{"0 5 0", "empty; 1 failed, 1 cut"},
		{"0 5 5 0", "empty; 1 failed, 1 cut"},
		{"0 6 0", "empty; 1 failed, 1 cut"}, // nobody says the symbol 6 alone
		{"0 1 2 0", "empty; 2 failed, 2 cut, given up"},
		{"0 1 0 5 0", "empty; 2 failed, 2 cut, given up"},
		{"0 1 3 0", "grounded red; 0 failed, 2 cut, done"},
		{"0 0 0 0 0 0 0 0 0 0 3 0", "grounded red; 0 failed, 0 cut, done"},
		{"0 0 0 0 0 0 0 0 0 3 0", "grounded red; 0 failed, 1 cut, done"},
		{"0 3 0 1 1 1 0 2 0", "grounded red; 0 failed, 1 cut, done"}, // what is said later is not heard
		{"0 3 1 1 1 0", "grounded red; 0 failed, 1 cut, done"},
		{"0 1 1 3 0", "empty; 2 failed, 2 cut, given up"},
	} {
		s := simple(t)
		s.Task.Phones = letters(6)
		s.Book = append(s.Book, []int{32 * 7})
		_, standing := replay(t, s, sound(ints(t, c.symbols)...))
		if got := shown(t, fixed(standing)); got != c.want {
			t.Errorf("%s: %s; not %s", c.symbols, got, c.want)
		}
	}
}

// fixed is a dialogue of which it is known how it stands.
type fixed api.Standing

func (s fixed) Ask() (api.Question, api.Errno)   { return api.Question{}, api.ErrNone }
func (s fixed) Stand() (api.Standing, api.Errno) { return api.Standing(s), api.OK }

// TestFramesOfEvents checks that events are at the frame with which a turn begins, whatever its length.
func TestFramesOfEvents(t *testing.T) {
	s := spelled(t, color(t), []string{"red", "blue", "yes"}, []int{1}, []int{1}, []int{2})
	s.Recipe.Step = 3
	s.Plan.Prompt, s.Plan.Need = 4, 2
	a := start(t, s)
	for _, c := range []struct {
		symbols string
		from    int
		want    string
	}{
		{"0 0 0 0 0 1 1 1 0", 1, "guessed red; 0 failed, 1 cut"}, // from the sample 5 on
		{"0 0 2 0", 3, "grounded red; 0 failed, 2 cut, done"},    // from the sample 11 on: 3 is 1 + 2
	} {
		_, e := a.Feed(sound(ints(t, c.symbols)...)...)
		expect(t, "Feed", e)
		if q, e := a.Ask(); e == api.OK && q.From != c.from {
			t.Errorf("the prompt begins at %d, not %d", q.From, c.from)
		}
		if got := shown(t, a); got != c.want {
			t.Errorf("%s: %s; not %s", c.symbols, got, c.want)
		}
	}
	// One frame earlier, the question is not understood.
	b := start(t, s)
	_, e := b.Feed(sound(ints(t, "0 0 0 0 0 1 0 0 2 0")...)...)
	expect(t, "Feed", e)
	if got := shown(t, b); got != "guessed red; 1 failed, 2 cut" {
		t.Error(got)
	}
}

// TestManyFrames checks turns with more frames than features, or words, can be made of.
func TestManyFrames(t *testing.T) {
	s := simple(t)
	s.Gate.Longest = 100000
	for _, c := range []struct {
		frames, words int
		features      bool
	}{
		{1, 1, true}, {api.MaxFrames, api.MaxFrames, true}, {api.MaxFrames + 1, 0, true},
		{api.MaxVectors, 0, true}, {api.MaxVectors + 1, 0, false}, {99999, 0, false},
	} {
		a := start(t, s)
		_, e := a.Feed(sound(slices.Repeat([]int{5}, c.frames)...)...)
		expect(t, "Feed", e)
		turns, e := a.Feed(0)
		speakers, e2 := a.Speakers()
		if e != api.OK || e2 != api.OK || len(turns) != 1 || len(turns[0].Words) != c.words || turns[0].To != c.frames || (len(speakers) > 0) != c.features {
			t.Errorf("%d frames: %d turns, %d speakers, errors %d and %d", c.frames, len(turns), len(speakers), e, e2)
		}
		if got := shown(t, a); got != "empty; 1 failed, 1 cut" {
			t.Errorf("%d frames: %s", c.frames, got)
		}
	}
}

// TestManySamples checks turns with as many samples as a recording may have, and with one block more, that arrive in several pieces after others. The block with which the turn ends is a piece of its own.
func TestManySamples(t *testing.T) {
	s := simple(t)
	s.Recipe.Step, s.Gate = 4000, api.Gate{Block: 4, High: 16, Low: 16, Rise: 2, Fall: 3, Lead: 1, Longest: 100000}
	for _, c := range []struct {
		lead, samples int
		closed        bool
		words         int
	}{
		{0, api.MaxSamples, false, 50}, {0, api.MaxSamples + 4, false, 0},
		{0, api.MaxSamples, true, 50}, {0, api.MaxSamples + 1, true, 0},
		{100, api.MaxSamples, false, 50}, {100, api.MaxSamples + 4, false, 0}, {1000, api.MaxSamples - 3, true, 50},
		{0, 399999, true, 0},
	} {
		a := start(t, s)
		x := slices.Concat(make([]int, c.lead), sound(slices.Repeat([]int{3}, c.samples-4*min(c.lead, 1))...))
		if !c.closed {
			x = append(x, make([]int, 12)...)
		}
		var turns []api.Turn
		for _, piece := range append(slices.Collect(slices.Chunk(x[:len(x)-4], 39999)), x[len(x)-4:]) {
			ended, e := a.Feed(piece...)
			expect(t, "Feed", e)
			turns = append(turns, ended...)
		}
		last, e := a.Close()
		expect(t, "Close", e)
		turns = append(turns, last...)
		speakers, e := a.Speakers()
		if e != api.OK || len(turns) != 1 || turns[0].To-turns[0].From != c.samples || len(turns[0].Words) != c.words || (len(speakers) > 0) != (c.words > 0) {
			t.Errorf("%d samples: %d turns, %d speakers and error %d", c.samples, len(turns), len(speakers), e)
		}
	}
}

// TestFewSamples checks turns with fewer samples than a frame has.
func TestFewSamples(t *testing.T) {
	s := simple(t)
	s.Recipe.Size, s.Recipe.Points = 2, 2
	a := start(t, s)
	turns, e := a.Feed(sound(0, 5, 0, 5, 5, 0, 5, 0)...)
	if e != api.OK || len(turns) != 3 || len(turns[0].Words) != 0 || len(turns[2].Words) != 0 {
		t.Errorf("turns %v and error %d", turns, e)
	}
	if speakers, e := a.Speakers(); e != api.OK || !slices.Equal(speakers, []int{0}) {
		t.Errorf("speakers %v and error %d", speakers, e)
	}
}

// TestManySpeakers checks sessions with as many turns, and as many vectors, as can be clustered, and with one more.
func TestManySpeakers(t *testing.T) {
	s := simple(t)
	a := start(t, s)
	for i := range api.MaxGroups + 2 {
		want := make([]int, i)
		for j := range want {
			want[j] = j % 2
		}
		speakers, e := a.Speakers()
		if i <= api.MaxGroups && (e != api.OK || !slices.Equal(speakers, want)) || i > api.MaxGroups && (e != api.ErrLong || !isEmpty(speakers)) {
			t.Errorf("%d turns: %v and error %d", i, speakers, e)
		}
		_, e = a.Feed(sound(1+4*(i%2), 0)...)
		expect(t, "Feed", e)
	}
	s.Gate.Longest = 100000
	b := start(t, s)
	for _, c := range []struct {
		frames int
		want   api.Errno
	}{{9000, api.OK}, {1000, api.OK}, {10001, api.OK}, {1, api.ErrLong}, {1, api.ErrLong}} {
		_, e := b.Feed(append(sound(slices.Repeat([]int{5}, c.frames)...), 0)...)
		expect(t, "Feed", e)
		if speakers, e := b.Speakers(); e != c.want || e != api.OK && !isEmpty(speakers) {
			t.Errorf("%d frames more: error %d", c.frames, e)
		}
	}
}

// TestFeedErrors checks that Feed and Close return the errors of the listener, and that nothing changes then.
func TestFeedErrors(t *testing.T) {
	s := simple(t)
	a := start(t, s)
	expectNone := func(what string, turns []api.Turn, e, want api.Errno) {
		t.Helper()
		if e != want || !isEmpty(turns) {
			t.Errorf("%s: %v and error %d", what, turns, e)
		}
	}
	turns, e := a.Feed(sound(3)...)
	expectNone("a turn that has not ended", turns, e, api.OK)
	turns, e = a.Feed(0, 8, 0, 40000)
	expectNone("a wrong sample", turns, e, api.ErrArg)
	turns, e = a.Feed(append(make([]int, api.MaxSamples), -40000)...)
	expectNone("too many samples", turns, e, api.ErrLong)
	turns, e = a.Feed()
	expectNone("no samples", turns, e, api.OK)
	expectSession(t, a, s, listen(t, s, sound(3), false))
	turns, e = a.Feed(sound(5, 0, 0, 4)...)
	if e != api.OK || len(turns) != 1 || turns[0].Text != "red uh" || turns[0].From != 0 || turns[0].To != 2 {
		t.Errorf("turns %v and error %d", turns, e)
	}
	turns, e = a.Close()
	if e != api.OK || len(turns) != 1 || turns[0].Text != "blue" || turns[0].From != 4 || turns[0].To != 5 {
		t.Errorf("turns %v and error %d", turns, e)
	}
	want := listen(t, s, sound(3, 5, 0, 0, 4), true)
	turns, e = a.Close()
	expectNone("a second Close", turns, e, api.ErrState)
	turns, e = a.Feed(0)
	expectNone("Feed after Close", turns, e, api.ErrState)
	turns, e = a.Feed(40000)
	expectNone("a wrong sample after Close", turns, e, api.ErrArg)
	turns, e = a.Feed(make([]int, api.MaxSamples+1)...)
	expectNone("too many samples after Close", turns, e, api.ErrLong)
	expectSession(t, a, s, want)
}

// TestReplayErrors checks which recordings are refused.
func TestReplayErrors(t *testing.T) {
	s := simple(t)
	for _, c := range []struct {
		what string
		r    api.Recording
		want api.Errno
	}{
		{"no samples", api.Recording{Rate: 8}, api.OK},
		{"another rate", api.Recording{Rate: 9}, api.ErrArg},
		{"no rate", api.Recording{}, api.ErrArg},
		{"a wrong sample", api.Recording{Rate: 8, Samples: []int{-32769}}, api.ErrArg},
		{"another wrong sample", api.Recording{Rate: 8, Samples: []int{0, 32768}}, api.ErrArg},
		{"the least and the greatest sample", api.Recording{Rate: 8, Samples: []int{-32768, 32767}}, api.OK},
		{"as many samples as there may be", api.Recording{Rate: 8, Samples: make([]int, api.MaxSamples)}, api.OK},
		{"too many samples", api.Recording{Rate: 8, Samples: make([]int, api.MaxSamples+1)}, api.ErrLong},
		{"too many samples and another rate", api.Recording{Rate: -8, Samples: make([]int, api.MaxSamples+1)}, api.ErrLong},
	} {
		turns, standing, e := talk.Replay(s, c.r)
		if e != c.want || e != api.OK && (!isEmpty(turns) || !isEmpty(standing)) {
			t.Errorf("%s: error %d", c.what, e)
		}
	}
}

// TestReplay checks that the same recording gives the same session again, in other pieces too.
func TestReplay(t *testing.T) {
	r := rand.New(rand.NewSource(10))
	for range 100 {
		s, x := randomSetup(t, r), randomSpeech(r, 100)
		turns, standing := replay(t, s, x)
		again, standing2 := replay(t, s, x)
		if !same(turns, again) || !same(standing, standing2) {
			t.Fatalf("%v and %v, then %v and %v", turns, standing, again, standing2)
		}
		a, b := start(t, s), start(t, s)
		a.Feed(x...)
		for _, sample := range x {
			b.Feed(sample)
		}
		a.Close()
		b.Close()
		one, e1 := a.Speakers()
		other, e2 := b.Speakers()
		s1, _ := a.Stand()
		s2, _ := b.Stand()
		if !same(a.Turns(), turns) || !same(b.Turns(), turns) || !same(s1, standing) || !same(s2, standing) || e1 != e2 || !slices.Equal(one, other) {
			t.Fatal("sessions of the same recording are different")
		}
	}
}

// TestNoSession checks nil sessions, and zero sessions, which behave like nil.
func TestNoSession(t *testing.T) {
	for _, a := range []*talk.Session{nil, {}} {
		turns, e1 := a.Feed(make([]int, api.MaxSamples+1)...)
		last, e2 := a.Close()
		q, e3 := a.Ask()
		standing, e4 := a.Stand()
		speakers, e5 := a.Speakers()
		for i, e := range []api.Errno{e1, e2, e3, e4, e5} {
			if e != api.ErrNil {
				t.Errorf("function %d: error %d", i, e)
			}
		}
		if !isEmpty(turns) || !isEmpty(last) || !isEmpty(q) || !isEmpty(standing) || !isEmpty(speakers) || !isEmpty(a.Turns()) {
			t.Error("results are not zero values")
		}
	}
}
