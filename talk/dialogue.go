package talk

import (
	"slices"

	"earshot/api"
	"earshot/frac"
	"earshot/lists"
	"earshot/whole"
)

// state is how far a dialogue has come. The zero state is that of a dialogue that Talk has not made.
type state int

const (
	missing state = iota
	open
	done
	givenUp
)

// Dialogue asks until all is settled. Talk makes it; the zero Dialogue behaves like nil.
type Dialogue struct {
	plan     api.Plan
	state    state
	slots    []api.Filled
	failures int
	from     int // the frame at which the last prompt began, which is also that of the last event
	cuts     int
}

// Talk returns a dialogue; ErrArg if the plan is not as defined.
func Talk(p api.Plan) (*Dialogue, api.Errno) {
	if !isPlan(p) {
		return nil, api.ErrArg
	}
	empty := slices.Repeat([]api.Filled{{Status: api.StatusEmpty}}, len(p.Slots))
	return &Dialogue{plan: ownPlan(p), state: open, slots: empty}, api.OK
}

// isMissing reports whether there is no dialogue.
func (d *Dialogue) isMissing() bool { return d == nil || d.state == missing }

// effects returns what events of each kind do to a dialogue that is open. An effect reports whether the event succeeds.
func effects() map[api.EventKind]func(*Dialogue, api.Event) bool {
	return map[api.EventKind]func(*Dialogue, api.Event) bool{
		api.EventNothing: (*Dialogue).ignore,
		api.EventYes:     (*Dialogue).confirm,
		api.EventNo:      (*Dialogue).refuse,
		api.EventValue:   (*Dialogue).fill,
	}
}

// Hear lets an event happen; ErrState if the dialogue is not open.
func (d *Dialogue) Hear(e api.Event) api.Errno {
	if d.isMissing() {
		return api.ErrNil
	}
	effect, exists := effects()[e.Kind]
	mayHaveValue := e.Kind == api.EventValue || e.Value == ""
	if !exists || !mayHaveValue || !ascend(api.Frac{}, e.Weight, frac.Of(1)) || !whole.Within(e.At, d.from, api.MaxAt) {
		return api.ErrArg
	}
	if d.state != open {
		return api.ErrState
	}
	if e.At < d.from+d.plan.Prompt {
		d.cuts++
	}
	if effect(d, e) {
		d.failures = 0
	} else {
		d.failures++
	}
	d.from = e.At
	d.settle()
	return api.OK
}

// settle ends a dialogue if all slots are grounded, or if too many events in a row have failed.
func (d *Dialogue) settle() {
	if d.failures > d.plan.Patience {
		d.state = givenUp
	} else if d.asked() < 0 {
		d.state = done
	}
}

// asked returns the index of the slot to which the question belongs, -1 if all slots are grounded.
func (d *Dialogue) asked() int {
	return slices.IndexFunc(d.slots, func(s api.Filled) bool { return s.Status != api.StatusGrounded })
}

// ignore is the effect of an event with which nothing was said.
func (d *Dialogue) ignore(api.Event) bool { return false }

// confirm is the effect of a yes.
func (d *Dialogue) confirm(e api.Event) bool {
	if !d.isAnswer(e) {
		return false
	}
	d.slots[d.asked()].Status = api.StatusGrounded
	return true
}

// refuse is the effect of a no.
func (d *Dialogue) refuse(e api.Event) bool {
	if !d.isAnswer(e) {
		return false
	}
	s := &d.slots[d.asked()]
	s.Refused = append(s.Refused, s.Value) // it was accepted, so it is not yet among them
	s.Status, s.Value = api.StatusEmpty, ""
	return true
}

// isAnswer reports whether a yes or a no answers the question.
func (d *Dialogue) isAnswer(e api.Event) bool {
	i := d.asked()
	return d.slots[i].Status == api.StatusGuessed && e.At >= d.from+d.plan.Need && ascend(d.plan.Slots[i].Least, e.Weight)
}

// fill is the effect of a value.
func (d *Dialogue) fill(e api.Event) bool {
	i := slotOf(d.plan, e.Value)
	if i < 0 {
		return false
	}
	s, sure := &d.slots[i], ascend(d.plan.Slots[i].Sure, e.Weight)
	if !ascend(d.plan.Slots[i].Least, e.Weight) || slices.Contains(s.Refused, e.Value) && !sure {
		return false
	}
	same := s.Value == e.Value
	if s.Status == api.StatusGrounded && same {
		return true
	}
	if s.Status != api.StatusGrounded && (same || sure) {
		s.Status = api.StatusGrounded
	} else {
		s.Status = api.StatusGuessed
	}
	s.Value = e.Value
	s.Refused = slices.DeleteFunc(s.Refused, func(value string) bool { return value == e.Value })
	return true
}

// Ask returns the question; ErrNone if there is none.
func (d *Dialogue) Ask() (api.Question, api.Errno) {
	if d.isMissing() {
		return api.Question{}, api.ErrNil
	}
	if d.state != open {
		return api.Question{}, api.ErrNone
	}
	i := d.asked()
	s := d.slots[i]
	return api.Question{Slot: i, Confirm: s.Status == api.StatusGuessed, Value: s.Value, From: d.from}, api.OK
}

// Stand returns how the dialogue stands.
func (d *Dialogue) Stand() (api.Standing, api.Errno) {
	if d.isMissing() {
		return api.Standing{}, api.ErrNil
	}
	slots := lists.Map(d.slots, func(s api.Filled) api.Filled {
		s.Refused = slices.Clone(s.Refused)
		return s
	})
	return api.Standing{Slots: slots, Failures: d.failures, Done: d.state == done, GivenUp: d.state == givenUp, Cuts: d.cuts}, api.OK
}
