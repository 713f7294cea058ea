package talk_test

import (
	"math/big"
	"slices"
	"testing"

	"earshot/api"
	"earshot/feature"
	"earshot/lattice"
	"earshot/wave"
	"earshot/written"
)

// centerOf returns the center of a group.
func centerOf(group [][]int) []*big.Rat {
	center := make([]*big.Rat, len(group[0]))
	for i := range center {
		center[i] = new(big.Rat)
		for _, x := range group {
			center[i].Add(center[i], new(big.Rat).SetInt64(int64(x[i])))
		}
		center[i].Quo(center[i], new(big.Rat).SetInt64(int64(len(group))))
	}
	return center
}

// gapOf returns the gap of two groups, as the chapter defines it.
func gapOf(a, b [][]int) *big.Rat {
	sum := new(big.Rat)
	x, y := centerOf(a), centerOf(b)
	for i := range x {
		d := new(big.Rat).Sub(x[i], y[i])
		sum.Add(sum, d.Mul(d, d))
	}
	return sum.Mul(sum, big.NewRat(int64(len(a)*len(b)), int64(len(a)+len(b))))
}

// speakersOf returns the speaker of each group: clusters are lists of groups, and all gaps are computed anew for each step.
func speakersOf(groups [][][]int, most int, limit *big.Rat) []int {
	var clusters [][]int
	for i := range groups {
		clusters = append(clusters, []int{i})
	}
	vectors := func(cluster []int) [][]int {
		var all [][]int
		for _, group := range cluster {
			all = append(all, groups[group]...)
		}
		return all
	}
	first := func(cluster []int) int { return slices.Min(cluster) }
	for len(clusters) > 1 {
		type pair struct {
			gap  *big.Rat
			a, b int
		}
		var pairs []pair
		for a := range clusters {
			for b := range clusters {
				if first(clusters[a]) < first(clusters[b]) {
					pairs = append(pairs, pair{gapOf(vectors(clusters[a]), vectors(clusters[b])), a, b})
				}
			}
		}
		slices.SortFunc(pairs, func(p, q pair) int {
			if order := p.gap.Cmp(q.gap); order != 0 {
				return order
			}
			return slices.Compare([]int{first(clusters[p.a]), first(clusters[p.b])}, []int{first(clusters[q.a]), first(clusters[q.b])})
		})
		least := pairs[0]
		if len(clusters) <= most && least.gap.Cmp(limit) > 0 {
			break
		}
		united := append(clusters[least.b], clusters[least.a]...)
		clusters = slices.DeleteFunc(clusters, func(c []int) bool { return slices.Contains(united, c[0]) })
		clusters = append(clusters, united)
	}
	slices.SortFunc(clusters, func(a, b []int) int { return first(a) - first(b) })
	speakers := make([]int, len(groups))
	for number, cluster := range clusters {
		for _, group := range cluster {
			speakers[group] = number
		}
	}
	return speakers
}

// standing is a dialogue as the chapter's table has it.
type standing struct {
	plan   api.Plan
	slots  []api.Filled
	fails  int
	cuts   int
	prompt int // the frame at which it began
	done   bool
	left   bool // given up
}

func standingOf(p api.Plan) *standing {
	d := &standing{plan: p}
	for range p.Slots {
		d.slots = append(d.slots, api.Filled{Status: api.StatusEmpty})
	}
	return d
}

// question returns the question, nil if there is none.
func (d *standing) question() *api.Question {
	if d.done || d.left {
		return nil
	}
	for i, s := range d.slots {
		switch s.Status {
		case api.StatusGuessed:
			return &api.Question{Slot: i, Confirm: true, Value: s.Value, From: d.prompt}
		case api.StatusEmpty:
			return &api.Question{Slot: i, From: d.prompt}
		}
	}
	return nil
}

// atLeast reports whether a weight is at least another one.
func atLeast(a, b api.Frac) bool { return valueOf(a).Cmp(valueOf(b)) >= 0 }

// hear lets an event happen to a dialogue that is open.
func (d *standing) hear(e api.Event) {
	if e.At < d.prompt+d.plan.Prompt {
		d.cuts++
	}
	if d.succeeds(e) {
		d.fails = 0
	} else {
		d.fails++
		d.left = d.fails > d.plan.Patience
	}
	d.prompt = e.At
	d.done = true
	for _, s := range d.slots {
		d.done = d.done && s.Status == api.StatusGrounded
	}
}

// succeeds lets an event happen to the slots, and reports whether it does not fail.
func (d *standing) succeeds(e api.Event) bool {
	q := d.question()
	answers := q.Confirm && e.At >= d.prompt+d.plan.Need && atLeast(e.Weight, d.plan.Slots[q.Slot].Least)
	asked := &d.slots[q.Slot]
	switch {
	case e.Kind == api.EventYes && answers:
		asked.Status = api.StatusGrounded
		return true
	case e.Kind == api.EventNo && answers:
		if !slices.Contains(asked.Refused, q.Value) {
			asked.Refused = append(asked.Refused, q.Value)
		}
		asked.Status, asked.Value = api.StatusEmpty, ""
		return true
	case e.Kind == api.EventValue:
		for i, s := range d.plan.Slots {
			if slices.Contains(s.Values, e.Value) {
				return take(s, &d.slots[i], e)
			}
		}
	}
	return false
}

// take gives a slot a value that it has.
func take(s api.Slot, to *api.Filled, e api.Event) bool {
	refused := slices.Contains(to.Refused, e.Value)
	sure := atLeast(e.Weight, s.Sure)
	if !atLeast(e.Weight, s.Least) || refused && !sure {
		return false
	}
	var left []string
	for _, value := range to.Refused {
		if value != e.Value {
			left = append(left, value)
		}
	}
	before := *to
	to.Refused, to.Value = left, e.Value
	switch {
	case before.Status == api.StatusGrounded && before.Value == e.Value:
	case before.Status == api.StatusGrounded:
		to.Status = api.StatusGuessed
	case sure || before.Status == api.StatusGuessed && before.Value == e.Value:
		to.Status = api.StatusGrounded
	default:
		to.Status = api.StatusGuessed
	}
	return true
}

// stand returns the standing as a result.
func (d *standing) stand() api.Standing {
	return api.Standing{Slots: d.slots, Failures: d.fails, Done: d.done, GivenUp: d.left, Cuts: d.cuts}
}

// heard is what a session makes of a whole recording.
type heard struct {
	turns    []api.Turn
	dialogue *standing
	groups   [][][]int
}

// listen returns what a session makes of a recording with the rate of the setup, segment by segment. If it is not closed, somebody may still be speaking.
func listen(t *testing.T, s api.Setup, x []int, closed bool) heard {
	t.Helper()
	h := heard{dialogue: standingOf(s.Plan)}
	for _, segment := range segmentsOf(t, s.Gate, x, closed) {
		piece, e := wave.Clip(api.Recording{Rate: s.Rate, Samples: x}, segment)
		expect(t, "Clip", e)
		turn := api.Turn{From: segment.From, To: segment.To}
		if vectors, e := feature.Extract(piece, s.Recipe); e == api.OK && len(vectors) > 0 {
			h.groups = append(h.groups, vectors)
			symbols, e := feature.Quantize(vectors, s.Book)
			expect(t, "Quantize", e)
			turn.Words, turn.Weights = wordsOf(t, s, symbols)
		}
		turn.Text = join(turn.Words)
		if text, e := written.WriteText(turn.Text); e == api.OK {
			turn.Text = text
		}
		h.turns = append(h.turns, turn)
		for _, e := range eventsOf(s, turn) {
			if !h.dialogue.done && !h.dialogue.left {
				h.dialogue.hear(e)
			}
		}
	}
	return h
}

// segmentsOf returns the segments that a listener finds.
func segmentsOf(t *testing.T, g api.Gate, x []int, closed bool) []api.Segment {
	t.Helper()
	l, e := wave.Listen(g)
	expect(t, "Listen", e)
	segments, e := l.Feed(x...)
	expect(t, "Feed", e)
	if closed {
		last, e := l.Close()
		expect(t, "Close", e)
		segments = append(segments, last...)
	}
	return segments
}

// join returns words with single spaces between them.
func join(words []string) string {
	text := ""
	for i, word := range words {
		if i > 0 {
			text += " "
		}
		text += word
	}
	return text
}

// wordsOf returns the words of the best path, and the parts of its arcs: the sums of the weights of those of all paths that have the arc, divided by the sum of all.
func wordsOf(t *testing.T, s api.Setup, symbols []int) ([]string, []api.Frac) {
	t.Helper()
	l, e := lattice.Make(s.Task, symbols)
	if e != api.OK {
		return nil, nil
	}
	const most = 100
	routes, e := lattice.Routes(l, s.Task.Language, most)
	expect(t, "Routes", e)
	if len(routes) == 0 {
		return nil, nil
	}
	total, parts := new(big.Rat), make([]*big.Rat, len(l.Arcs))
	for i := range parts {
		parts[i] = new(big.Rat)
	}
	for _, route := range routes {
		weight := valueOf(route.Weight)
		total.Add(total, weight)
		for _, arc := range route.Arcs {
			parts[arc].Add(parts[arc], weight)
		}
	}
	if len(routes) == most { // there may be more of them
		all, e := lattice.Parts(l, s.Task.Language)
		expect(t, "Parts", e)
		for i, part := range all {
			parts[i].Mul(valueOf(part), total)
		}
	}
	var words []string
	var weights []api.Frac
	for _, arc := range routes[0].Arcs {
		words = append(words, s.Names[l.Arcs[arc].Word-1])
		weights = append(weights, f(t, parts[arc].Quo(parts[arc], total).RatString()))
	}
	return words, weights
}

// eventsOf returns the events of a turn.
func eventsOf(s api.Setup, turn api.Turn) []api.Event {
	kinds := map[string]api.EventKind{"yes": api.EventYes, "no": api.EventNo}
	for _, slot := range s.Plan.Slots {
		for _, value := range slot.Values {
			kinds[value] = api.EventValue
		}
	}
	at := (turn.From - turn.From%s.Recipe.Step) / s.Recipe.Step
	var events []api.Event
	for i, word := range turn.Words {
		if kinds[word] == 0 {
			continue
		}
		e := api.Event{Kind: kinds[word], Weight: turn.Weights[i], At: at}
		if e.Kind == api.EventValue {
			e.Value = word
		}
		events = append(events, e)
	}
	if events == nil {
		events = []api.Event{{Kind: api.EventNothing, At: at}}
	}
	return events
}
