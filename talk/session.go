package talk

import (
	"earshot/api"
	"earshot/checks"
	"earshot/lists"
	"earshot/wave"
)

// Session listens to samples. Start makes it; the zero Session behaves like nil.
type Session struct {
	own *session
}

// session is what a Session hides, since fields of a setup are exported ones.
type session struct {
	api.Setup
	listener *wave.Listener
	dialogue *Dialogue
	heard    []int // the last samples, which later turns may have
	turns    []api.Turn
	voices   []voice // of the turns that have features
}

// Start returns a session.
func Start(s api.Setup) (*Session, api.Errno) {
	if e := Check(s); e != api.OK {
		return nil, e
	}
	listener, _ := wave.Listen(s.Gate)
	dialogue, _ := Talk(s.Plan)
	return &Session{&session{Setup: ownSetup(s), listener: listener, dialogue: dialogue}}, api.OK
}

// isMissing reports whether there is no session.
func (s *Session) isMissing() bool { return s == nil || s.own == nil }

// Feed feeds a session with samples, and returns the turns that ended; errors are those of the listener.
func (s *Session) Feed(x ...int) ([]api.Turn, api.Errno) {
	if s.isMissing() {
		return nil, api.ErrNil
	}
	ended, e := s.own.listener.Feed(x...)
	if e != api.OK {
		return nil, e
	}
	s.own.heard = append(s.own.heard, x...)
	turns := lists.Map(ended, s.own.take)
	s.own.forget()
	return turns, api.OK
}

// Close closes a session, and returns the turn that ended thereby, if there is one; ErrState if it has been closed before.
func (s *Session) Close() ([]api.Turn, api.Errno) {
	if s.isMissing() {
		return nil, api.ErrNil
	}
	ended, e := s.own.listener.Close()
	if e != api.OK {
		return nil, e
	}
	turns := lists.Map(ended, s.own.take)
	s.own.heard = nil
	return turns, api.OK
}

// take makes a segment a turn of the session, and returns a copy of it.
func (s *session) take(segment api.Segment) api.Turn {
	t, features := s.turn(segment)
	s.turns = append(s.turns, t)
	if len(features) > 0 {
		s.voices = append(s.voices, voiceOf(features))
	}
	for _, e := range s.events(t) {
		s.dialogue.Hear(e) // ErrState is the only error: later events are not heard
	}
	return ownTurn(t)
}

// samples returns the samples of a segment that has just ended; ErrLong if no recording has so many.
func (s *session) samples(segment api.Segment) ([]int, api.Errno) {
	if segment.To-segment.From > api.MaxSamples {
		return nil, api.ErrLong
	}
	arrived, _ := s.listener.At()
	first := arrived - len(s.heard)
	return s.heard[segment.From-first : segment.To-first], api.OK
}

// forget drops the samples that no later turn can have.
func (s *session) forget() {
	arrived, speaks := s.listener.At()
	block := arrived / s.Gate.Block // the next one that will be processed
	// The next segment ends, at the earliest, with the last block before a silence that ends with this block. If it has too many samples, it needs none of them.
	needed := (block+1-s.Gate.Fall)*s.Gate.Block - api.MaxSamples
	if !speaks { // it begins, at the earliest, where loud blocks up to this one begin, or with its lead
		needed = max(needed, (block+1-s.Gate.Rise-s.Gate.Lead)*s.Gate.Block)
	}
	first := arrived - len(s.heard)
	s.heard = s.heard[max(needed-first, 0):]
}

// Turns returns all turns so far.
func (s *Session) Turns() []api.Turn {
	if s.isMissing() {
		return nil
	}
	return lists.Map(s.own.turns, ownTurn)
}

// Ask returns the question of the dialogue; ErrNone if there is none.
func (s *Session) Ask() (api.Question, api.Errno) {
	if s.isMissing() {
		return api.Question{}, api.ErrNil
	}
	return s.own.dialogue.Ask()
}

// Stand returns how the dialogue stands.
func (s *Session) Stand() (api.Standing, api.Errno) {
	if s.isMissing() {
		return api.Standing{}, api.ErrNil
	}
	return s.own.dialogue.Stand()
}

// Speakers returns the speaker of each turn that has features; ErrLong if there are too many such turns, or if they have too many frames.
func (s *Session) Speakers() ([]int, api.Errno) {
	if s.isMissing() {
		return nil, api.ErrNil
	}
	frames := 0
	for _, v := range s.own.voices {
		frames += v.size
	}
	if e := checks.First(checks.Length(len(s.own.voices), api.MaxGroups), checks.Length(frames, api.MaxVectors)); e != api.OK {
		return nil, e
	}
	return speakers(s.own.voices, s.own.Most, s.own.Limit), api.OK
}

// Replay returns the turns of a session that hears a recording, and how its dialogue stands then; ErrArg also if the recording has another rate.
func Replay(s api.Setup, r api.Recording) ([]api.Turn, api.Standing, api.Errno) {
	a, e := Start(s)
	if e != api.OK {
		return nil, api.Standing{}, e
	}
	_, e = wave.Clip(r, api.Segment{}) // an empty piece, because only a recording has one
	if e = checks.First(e, checks.Argument(r.Rate == s.Rate)); e != api.OK {
		return nil, api.Standing{}, e
	}
	a.Feed(r.Samples...)
	a.Close()
	standing, e := a.Stand()
	return a.Turns(), standing, e
}
