// Tests of P10.3: Talk, Hear, Ask and Stand.

package talk_test

import (
	"math"
	"math/rand"
	"slices"
	"strconv"
	"strings"
	"testing"

	"earshot/api"
	"earshot/frac"
	"earshot/talk"
)

// asker is a dialogue, or a session.
type asker interface {
	Ask() (api.Question, api.Errno)
	Stand() (api.Standing, api.Errno)
}

// expectStanding checks how a dialogue stands, and its question.
func expectStanding(t *testing.T, d asker, want *standing) {
	t.Helper()
	got, e := d.Stand()
	if e != api.OK || !same(got, want.stand()) {
		t.Fatalf("Stand: %+v and error %d, not %+v", got, e, want.stand())
	}
	q, e := d.Ask()
	if wanted := want.question(); wanted == nil {
		if e != api.ErrNone || !isEmpty(q) {
			t.Fatalf("Ask: %+v and error %d", q, e)
		}
	} else if e != api.OK || q != *wanted {
		t.Fatalf("Ask: %+v and error %d, not %+v", q, e, *wanted)
	}
}

// randomPlan returns a plan with few slots and values, some of which are the same strings as names.
func randomPlan(r *rand.Rand) api.Plan {
	p := api.Plan{Patience: r.Intn(4), Prompt: r.Intn(12)}
	p.Need = r.Intn(p.Prompt + 1)
	for i := range 1 + r.Intn(3) {
		s := api.Slot{Name: "a" + strconv.Itoa(2*i)}
		for range 1 + r.Intn(3) {
			s.Values = append(s.Values, "a"+strconv.Itoa(3*i+len(s.Values)))
		}
		least, sure := r.Intn(5), r.Intn(5)
		s.Least, s.Sure = fraction(r, min(least, sure), 4), fraction(r, max(least, sure), 4)
		p.Slots = append(p.Slots, s)
	}
	return p
}

// randomEvent returns an event that may follow at a frame.
func randomEvent(r *rand.Rand, at int) api.Event {
	e := api.Event{Kind: api.EventKind(1 + r.Intn(4)), Weight: fraction(r, r.Intn(5), 4), At: at + r.Intn(9)}
	if r.Intn(2) == 0 {
		e.Kind = api.EventValue
	}
	if e.Kind == api.EventValue {
		e.Value = "a" + strconv.Itoa(r.Intn(10))
	}
	return e
}

// TestDialogue checks dialogues against the table of the chapter.
func TestDialogue(t *testing.T) {
	r := rand.New(rand.NewSource(7))
	ends := map[string]int{}
	for range 20000 {
		p := randomPlan(r)
		d, want := dialogue(t, p), standingOf(p)
		expectStanding(t, d, want)
		at := 0
		for range r.Intn(25) {
			e := randomEvent(r, at)
			at = e.At
			if want.done || want.left {
				if got := d.Hear(e); got != api.ErrState {
					t.Fatalf("a dialogue that is over: error %d", got)
				}
			} else {
				want.hear(e)
				expect(t, "Hear", d.Hear(e))
			}
			expectStanding(t, d, want)
		}
		switch {
		case want.done:
			ends["done"]++
		case want.left:
			ends["given up"]++
		default:
			ends["open"]++
		}
	}
	if ends["done"] < 1000 || ends["given up"] < 1000 || ends["open"] < 1000 {
		t.Errorf("ends of dialogues: %v", ends)
	}
}

// line reads an event: its frame, its weight in quarters, and yes, no, nothing or a value.
func line(t *testing.T, s string) api.Event {
	t.Helper()
	parts := strings.Fields(s)
	n := ints(t, parts[0]+" "+parts[1])
	e := api.Event{At: n[0], Weight: f(t, strconv.Itoa(n[1])+"/4")}
	switch parts[2] {
	case "nothing":
		e.Kind = api.EventNothing
	case "yes":
		e.Kind = api.EventYes
	case "no":
		e.Kind = api.EventNo
	default:
		e.Kind, e.Value = api.EventValue, parts[2]
	}
	return e
}

// hear lets events happen, which must not fail.
func hear(t *testing.T, d *talk.Dialogue, lines ...string) {
	t.Helper()
	for _, s := range lines {
		if e := d.Hear(line(t, s)); e != api.OK {
			t.Fatalf("%s: error %d", s, e)
		}
	}
}

// two is a plan with two slots: color with Least 1/4 and Sure 3/4, and size with Least 1/2 and Sure 1/2.
func two(t *testing.T) api.Plan {
	t.Helper()
	p := color(t)
	p.Slots = append(p.Slots, api.Slot{Name: "size", Values: []string{"small", "large"}, Least: f(t, "1/2"), Sure: f(t, "1/2")})
	return p
}

// shown writes how a dialogue stands: the status, the value and the refused values of each slot, failures, cuts, and whether it is over.
func shown(t *testing.T, d asker) string {
	t.Helper()
	s, e := d.Stand()
	expect(t, "Stand", e)
	var parts []string
	for _, x := range s.Slots {
		part := []string{"", "empty", "guessed", "grounded"}[x.Status]
		if x.Value != "" {
			part += " " + x.Value
		}
		for _, value := range x.Refused {
			part += " -" + value
		}
		parts = append(parts, part)
	}
	text := strings.Join(parts, ", ") + "; " + strconv.Itoa(s.Failures) + " failed, " + strconv.Itoa(s.Cuts) + " cut"
	if s.Done {
		text += ", done"
	}
	if s.GivenUp {
		text += ", given up"
	}
	return text
}

// TestEffects checks each effect, and when it fails.
func TestEffects(t *testing.T) {
	for _, c := range []struct {
		lines []string
		want  string
	}{
		// The examples of the chapter.
		{nil, "empty, empty; 0 failed, 0 cut"},
		{[]string{"2 2 red"}, "guessed red, empty; 0 failed, 1 cut"},
		{[]string{"2 2 red", "4 4 yes"}, "guessed red, empty; 1 failed, 2 cut"},
		{[]string{"2 2 red", "4 4 yes", "9 4 yes"}, "grounded red, empty; 0 failed, 3 cut"},
		{[]string{"2 2 red", "4 4 yes", "9 4 no"}, "empty -red, empty; 0 failed, 3 cut"},
		{[]string{"2 2 red", "4 4 yes", "9 4 no", "30 2 red"}, "empty -red, empty; 1 failed, 3 cut"},
		// Nothing.
		{[]string{"20 0 nothing"}, "empty, empty; 1 failed, 0 cut"},
		{[]string{"20 4 nothing", "40 4 nothing"}, "empty, empty; 2 failed, 0 cut, given up"},
		// Yes and no, when the question is to ask, or was not understood, or the weight is too little.
		{[]string{"20 4 yes"}, "empty, empty; 1 failed, 0 cut"},
		{[]string{"20 4 no"}, "empty, empty; 1 failed, 0 cut"},
		{[]string{"20 2 red", "24 1 yes"}, "grounded red, empty; 0 failed, 1 cut"},
		{[]string{"20 2 red", "23 1 yes"}, "guessed red, empty; 1 failed, 1 cut"},
		{[]string{"20 2 red", "24 0 yes"}, "guessed red, empty; 1 failed, 1 cut"},
		{[]string{"20 2 red", "24 1 no"}, "empty -red, empty; 0 failed, 1 cut"},
		{[]string{"20 2 red", "23 1 no"}, "guessed red, empty; 1 failed, 1 cut"},
		{[]string{"20 2 red", "24 0 no"}, "guessed red, empty; 1 failed, 1 cut"},
		// The prompt is cut before its last frame.
		{[]string{"9 3 red", "18 2 small"}, "grounded red, grounded small; 0 failed, 2 cut, done"},
		{[]string{"10 3 red", "20 2 small"}, "grounded red, grounded small; 0 failed, 0 cut, done"},
		// Values that no slot has, and too little weight.
		{[]string{"20 4 green"}, "empty, empty; 1 failed, 0 cut"},
		{[]string{"20 4 color"}, "empty, empty; 1 failed, 0 cut"},
		{[]string{"20 0 red"}, "empty, empty; 1 failed, 0 cut"},
		{[]string{"20 1 red"}, "guessed red, empty; 0 failed, 0 cut"},
		{[]string{"20 2 red"}, "guessed red, empty; 0 failed, 0 cut"},
		{[]string{"20 3 red"}, "grounded red, empty; 0 failed, 0 cut"},
		{[]string{"20 1 large"}, "empty, empty; 1 failed, 0 cut"},
		{[]string{"20 2 large"}, "empty, grounded large; 0 failed, 0 cut"},
		// A value that is guessed is said again, or another one is.
		{[]string{"20 1 red", "40 1 red"}, "grounded red, empty; 0 failed, 0 cut"},
		{[]string{"20 1 red", "40 0 red"}, "guessed red, empty; 1 failed, 0 cut"},
		{[]string{"20 1 red", "40 1 blue"}, "guessed blue, empty; 0 failed, 0 cut"},
		{[]string{"20 1 red", "40 3 blue"}, "grounded blue, empty; 0 failed, 0 cut"},
		{[]string{"20 1 red", "40 1 blue", "60 1 red"}, "guessed red, empty; 0 failed, 0 cut"},
		// A value that is grounded is said again, or repaired.
		{[]string{"20 4 red", "40 1 red"}, "grounded red, empty; 0 failed, 0 cut"},
		{[]string{"20 4 red", "40 0 red"}, "grounded red, empty; 1 failed, 0 cut"},
		{[]string{"20 4 red", "40 4 green", "60 4 red"}, "grounded red, empty; 0 failed, 0 cut"},
		{[]string{"20 4 red", "40 4 blue"}, "guessed blue, empty; 0 failed, 0 cut"},
		{[]string{"20 4 red", "40 0 blue"}, "grounded red, empty; 1 failed, 0 cut"},
		{[]string{"20 4 red", "40 4 blue", "60 1 yes"}, "grounded blue, empty; 0 failed, 0 cut"},
		{[]string{"20 4 red", "40 4 blue", "60 1 blue"}, "grounded blue, empty; 0 failed, 0 cut"},
		{[]string{"20 4 red", "40 4 blue", "60 1 no"}, "empty -blue, empty; 0 failed, 0 cut"},
		// Refused values need more weight, and are accepted then.
		{[]string{"20 1 red", "40 1 no", "60 2 red"}, "empty -red, empty; 1 failed, 0 cut"},
		{[]string{"20 1 red", "40 1 no", "60 3 red"}, "grounded red, empty; 0 failed, 0 cut"},
		{[]string{"20 1 red", "40 1 no", "60 1 blue"}, "guessed blue -red, empty; 0 failed, 0 cut"},
		{[]string{"20 1 red", "40 1 no", "60 1 blue", "80 1 no"}, "empty -red -blue, empty; 0 failed, 0 cut"},
		{[]string{"20 1 red", "40 1 no", "60 1 blue", "80 1 no", "90 3 red"}, "grounded red -blue, empty; 0 failed, 0 cut"},
		{[]string{"20 1 red", "40 1 no", "60 1 blue", "80 1 no", "90 3 red", "91 4 blue"}, "guessed blue, empty; 0 failed, 1 cut"},
		{[]string{"20 1 blue", "40 1 no", "60 1 red", "80 1 no", "90 3 blue", "91 2 red"}, "grounded blue -red, empty; 1 failed, 1 cut"},
		{[]string{"20 1 blue", "40 1 no", "60 1 red", "80 1 blue"}, "guessed red -blue, empty; 1 failed, 0 cut"},
		{[]string{"20 1 blue", "40 1 no", "60 1 red", "80 3 blue"}, "grounded blue, empty; 0 failed, 0 cut"},
		// The question belongs to the first slot that is not grounded, whatever was said last.
		{[]string{"20 2 red", "40 4 small", "60 4 no"}, "empty -red, grounded small; 0 failed, 0 cut"},
		{[]string{"20 2 small", "40 4 yes"}, "empty, grounded small; 1 failed, 0 cut"},
		{[]string{"20 3 red", "40 4 small"}, "grounded red, grounded small; 0 failed, 0 cut, done"},
		{[]string{"20 2 small", "40 4 large", "60 3 blue", "80 1 yes", "90 2 yes"}, "grounded blue, grounded large; 0 failed, 0 cut, done"},
	} {
		d := dialogue(t, two(t))
		hear(t, d, c.lines...)
		if got := shown(t, d); got != c.want {
			t.Errorf("%q: %s; not %s", c.lines, got, c.want)
		}
	}
}

// TestQuestions checks questions of the chapter's example.
func TestQuestions(t *testing.T) {
	d := dialogue(t, color(t))
	for _, c := range []struct {
		line string
		want api.Question
		none bool
	}{
		{"", api.Question{}, false},
		{"2 2 red", api.Question{Confirm: true, Value: "red", From: 2}, false},
		{"4 4 yes", api.Question{Confirm: true, Value: "red", From: 4}, false},
		{"9 4 no", api.Question{From: 9}, false},
		{"30 2 red", api.Question{From: 30}, false},
		{"30 4 red", api.Question{}, true},
	} {
		if c.line != "" {
			hear(t, d, c.line)
		}
		q, e := d.Ask()
		if q != c.want || (e == api.ErrNone) != c.none || e != api.OK && !c.none {
			t.Errorf("after %q: %+v and error %d", c.line, q, e)
		}
	}
	d = dialogue(t, two(t))
	hear(t, d, "20 4 red")
	if q, e := d.Ask(); e != api.OK || q != (api.Question{Slot: 1, From: 20}) {
		t.Errorf("the second slot: %+v and error %d", q, e)
	}
	hear(t, d, "40 4 nothing", "60 4 nothing")
	if q, e := d.Ask(); e != api.ErrNone || !isEmpty(q) {
		t.Errorf("a dialogue that was given up: %+v and error %d", q, e)
	}
}

// TestHearErrors checks which events are refused, and that nothing changes then.
func TestHearErrors(t *testing.T) {
	good := api.Event{Kind: api.EventValue, Value: "red", Weight: f(t, "1/2"), At: 7}
	change := func(do func(e *api.Event)) api.Event {
		e := good
		do(&e)
		return e
	}
	for what, c := range map[string]struct {
		e    api.Event
		want api.Errno
	}{
		"a good event":             {good, api.OK},
		"no kind":                  {change(func(e *api.Event) { e.Kind = 0 }), api.ErrArg},
		"a kind that is too great": {change(func(e *api.Event) { e.Kind = 5 }), api.ErrArg},
		"a negative kind":          {change(func(e *api.Event) { e.Kind = -1 }), api.ErrArg},
		"a negative weight":        {change(func(e *api.Event) { e.Weight = f(t, "-1/9") }), api.ErrArg},
		"too great a weight":       {change(func(e *api.Event) { e.Weight = f(t, "10/9") }), api.ErrArg},
		"the least weight":         {change(func(e *api.Event) { e.Weight = api.Frac{Neg: true} }), api.OK},
		"the greatest weight":      {change(func(e *api.Event) { e.Weight = api.Frac{N: []uint32{3}, D: []uint32{3, 0}} }), api.OK},
		"a value of yes":           {change(func(e *api.Event) { e.Kind = api.EventYes }), api.ErrArg},
		"a value of no":            {change(func(e *api.Event) { e.Kind, e.Value = api.EventNo, "\x00" }), api.ErrArg},
		"a value of nothing":       {change(func(e *api.Event) { e.Kind = api.EventNothing }), api.ErrArg},
		"no value":                 {change(func(e *api.Event) { e.Value = "" }), api.OK},
		"a value that is no word":  {change(func(e *api.Event) { e.Value = strings.Repeat(" \xff", 1000) }), api.OK},
		"a frame before the last":  {change(func(e *api.Event) { e.At = 2 }), api.ErrArg},
		"the frame of the last":    {change(func(e *api.Event) { e.At = 3 }), api.OK},
		"a negative frame":         {change(func(e *api.Event) { e.At = -1 }), api.ErrArg},
		"the least frame":          {change(func(e *api.Event) { e.At = math.MinInt }), api.ErrArg},
		"the last frame":           {change(func(e *api.Event) { e.At = api.MaxAt }), api.OK},
		"a frame behind the last":  {change(func(e *api.Event) { e.At = api.MaxAt + 1 }), api.ErrArg},
	} {
		p := color(t)
		p.Patience = 9
		d := dialogue(t, p)
		hear(t, d, "3 4 nothing")
		before := shown(t, d)
		q, _ := d.Ask()
		if e := d.Hear(c.e); e != c.want {
			t.Errorf("%s: error %d, not %d", what, e, c.want)
		}
		after, _ := d.Ask()
		if (shown(t, d) == before && q == after) != (c.want != api.OK) {
			t.Errorf("%s: %s and %+v, and then %s and %+v", what, before, q, shown(t, d), after)
		}
		// A dialogue that is over refuses what is wrong first.
		over := dialogue(t, color(t))
		hear(t, over, "3 4 red")
		if e := over.Hear(c.e); c.want == api.OK && e != api.ErrState || c.want != api.OK && e != c.want {
			t.Errorf("%s, when it is over: error %d", what, e)
		}
	}
}

// TestFirstFrame checks that events may begin with the frame 0, and only there with a negative one before it.
func TestFirstFrame(t *testing.T) {
	d := dialogue(t, color(t))
	if e := d.Hear(api.Event{Kind: api.EventNothing, At: -1}); e != api.ErrArg {
		t.Errorf("error %d", e)
	}
	hear(t, d, "0 1 red", "0 0 red")
	if got := shown(t, d); got != "guessed red; 1 failed, 2 cut" {
		t.Error(got)
	}
}

// TestPlans checks which plans are refused.
func TestPlans(t *testing.T) {
	names := func(prefix string, n int) []string {
		var list []string
		for i := range n {
			list = append(list, prefix+strconv.Itoa(i))
		}
		return list
	}
	slots := func(n int) []api.Slot {
		var list []api.Slot
		for _, name := range names("s", n) {
			list = append(list, api.Slot{Name: name, Values: names(name+".", api.MaxValues)})
		}
		return list
	}
	for _, c := range []struct {
		what   string
		change func(p *api.Plan)
		want   api.Errno
	}{
		{"nothing", func(p *api.Plan) {}, api.OK},
		{"no slots", func(p *api.Plan) { p.Slots = nil }, api.ErrArg},
		{"as many slots as there may be", func(p *api.Plan) { p.Slots = slots(api.MaxSlots) }, api.OK},
		{"too many slots", func(p *api.Plan) { p.Slots = slots(api.MaxSlots + 1) }, api.ErrArg},
		{"no values", func(p *api.Plan) { p.Slots[1].Values = nil }, api.ErrArg},
		{"as many values as there may be", func(p *api.Plan) { p.Slots[1].Values = names("v", api.MaxValues) }, api.OK},
		{"too many values", func(p *api.Plan) { p.Slots[1].Values = names("v", api.MaxValues+1) }, api.ErrArg},
		{"equal names", func(p *api.Plan) { p.Slots[1].Name = "color" }, api.ErrArg},
		{"equal values in a slot", func(p *api.Plan) { p.Slots[1].Values[1] = "small" }, api.ErrArg},
		{"equal values in two slots", func(p *api.Plan) { p.Slots[1].Values[1] = "blue" }, api.ErrArg},
		{"a name that is a value", func(p *api.Plan) { p.Slots[1].Name = "blue" }, api.OK},
		{"a name that is its own value", func(p *api.Plan) { p.Slots[1].Name = "large" }, api.OK},
		{"the name yes", func(p *api.Plan) { p.Slots[1].Name = "yes" }, api.ErrArg},
		{"the name no", func(p *api.Plan) { p.Slots[0].Name = "no" }, api.ErrArg},
		{"the value yes", func(p *api.Plan) { p.Slots[0].Values[1] = "yes" }, api.ErrArg},
		{"the value no", func(p *api.Plan) { p.Slots[1].Values[0] = "no" }, api.ErrArg},
		{"the name Yes", func(p *api.Plan) { p.Slots[1].Name = "Yes" }, api.OK},
		{"an empty name", func(p *api.Plan) { p.Slots[0].Name = "" }, api.ErrArg},
		{"a name with a blank", func(p *api.Plan) { p.Slots[0].Name = "a b" }, api.ErrArg},
		{"an empty value", func(p *api.Plan) { p.Slots[0].Values[1] = "" }, api.ErrArg},
		{"a value that is no word", func(p *api.Plan) { p.Slots[0].Values[1] = "\x7f" }, api.ErrArg},
		{"the longest name and value", func(p *api.Plan) {
			p.Slots[0].Name, p.Slots[0].Values[0] = strings.Repeat("~", 40), strings.Repeat("!", 40)
		}, api.OK},
		{"too long a name", func(p *api.Plan) { p.Slots[0].Name = strings.Repeat("~", 41) }, api.ErrArg},
		{"too long a value", func(p *api.Plan) { p.Slots[0].Values[0] = strings.Repeat("~", 41) }, api.ErrArg},
		{"a negative Least", func(p *api.Plan) { p.Slots[0].Least = f(t, "-1/9") }, api.ErrArg},
		{"a Least of 0", func(p *api.Plan) { p.Slots[0].Least = api.Frac{} }, api.OK},
		{"a Sure less than Least", func(p *api.Plan) { p.Slots[1].Sure = f(t, "1/3") }, api.ErrArg},
		{"a Sure of 1", func(p *api.Plan) { p.Slots[1].Sure = api.Frac{N: []uint32{4, 0}, D: []uint32{4}} }, api.OK},
		{"a Sure greater than 1", func(p *api.Plan) { p.Slots[1].Sure = f(t, "1001/1000") }, api.ErrArg},
		{"a negative Patience", func(p *api.Plan) { p.Patience = -1 }, api.ErrArg},
		{"no Patience", func(p *api.Plan) { p.Patience = 0 }, api.OK},
		{"the greatest Patience", func(p *api.Plan) { p.Patience = 100 }, api.OK},
		{"too much Patience", func(p *api.Plan) { p.Patience = 101 }, api.ErrArg},
		{"a negative Prompt", func(p *api.Plan) { p.Prompt, p.Need = -1, -1 }, api.ErrArg},
		{"no Prompt", func(p *api.Plan) { p.Prompt, p.Need = 0, 0 }, api.OK},
		{"the greatest Prompt", func(p *api.Plan) { p.Prompt, p.Need = 10000, 10000 }, api.OK},
		{"too great a Prompt", func(p *api.Plan) { p.Prompt = 10001 }, api.ErrArg},
		{"a negative Need", func(p *api.Plan) { p.Need = -1 }, api.ErrArg},
		{"too great a Need", func(p *api.Plan) { p.Need = 11 }, api.ErrArg},
	} {
		p := two(t)
		c.change(&p)
		if d, e := talk.Talk(p); e != c.want || (d == nil) != (e != api.OK) {
			t.Errorf("%s: error %d", c.what, e)
		}
	}
	if d, e := talk.Talk(api.Plan{}); d != nil || e != api.ErrArg {
		t.Errorf("the zero plan: error %d", e)
	}
}

// TestGrounded checks what P10.3 says about slots that become grounded, and about dialogues that are done.
func TestGrounded(t *testing.T) {
	r := rand.New(rand.NewSource(8))
	for range 5000 {
		p := randomPlan(r)
		d := dialogue(t, p)
		before, _ := d.Stand()
		at := 0
		for !before.Done && !before.GivenUp {
			e := randomEvent(r, at)
			at = e.At
			q, _ := d.Ask()
			expect(t, "Hear", d.Hear(e))
			after, _ := d.Stand()
			for i, s := range after.Slots {
				if s.Status != api.StatusGrounded || before.Slots[i].Status == api.StatusGrounded {
					continue
				}
				sure := e.Kind == api.EventValue && e.Value == s.Value && frac.Cmp(e.Weight, p.Slots[i].Sure) >= 0
				twice := e.Kind == api.EventValue && e.Value == s.Value && before.Slots[i].Value == s.Value
				confirmed := e.Kind == api.EventYes && q.Confirm && q.Slot == i && q.Value == s.Value
				if !sure && !twice && !confirmed {
					t.Fatalf("%+v was grounded by %+v", s, e)
				}
			}
			for i, s := range after.Slots {
				if after.Done && !slices.Contains(p.Slots[i].Values, s.Value) {
					t.Fatalf("the slot %d has the value %q", i, s.Value)
				}
			}
			before = after
		}
	}
}

// TestNoDialogue checks nil dialogues, and zero dialogues, which behave like nil.
func TestNoDialogue(t *testing.T) {
	for _, d := range []*talk.Dialogue{nil, {}} {
		if e := d.Hear(api.Event{Kind: -1}); e != api.ErrNil {
			t.Errorf("Hear: error %d", e)
		}
		if q, e := d.Ask(); e != api.ErrNil || !isEmpty(q) {
			t.Errorf("Ask: error %d", e)
		}
		if s, e := d.Stand(); e != api.ErrNil || !isEmpty(s) {
			t.Errorf("Stand: error %d", e)
		}
	}
}
