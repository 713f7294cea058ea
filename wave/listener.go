package wave

import (
	"earshot/api"
	"earshot/whole"
)

// The bounds of gates and listeners.
const (
	mostEnergy  = 1 << 30
	mostRun     = 1000
	mostLead    = 1000
	mostBlocks  = 100000
	mostArrived = 1 << 31
)

// ringBlocks is how many blocks a ring has room for: the one that was completed last stays as it is while the next one is filled.
const ringBlocks = 2

// state is what a listener does. The zero state is that of a listener that Listen has not made.
type state int

const (
	missing state = iota
	waiting
	speech
	closed
)

// Listener finds where somebody speaks, while the samples arrive. Listen makes it; the zero Listener behaves like nil.
type Listener struct {
	gate    api.Gate
	state   state
	ring    []int // the sample i is at the place i modulo its length
	arrived int   // samples
	run     int   // loud blocks up to the last one when waiting, quiet ones in speech
	first   int   // the first block of the segment in speech
	ended   int   // the first block behind the segment before
}

// Listen returns a listener for a gate; ErrArg if the gate is not as it has to be.
func Listen(g api.Gate) (*Listener, api.Errno) {
	if !validGate(g) {
		return nil, api.ErrArg
	}
	return &Listener{gate: g, state: waiting, ring: make([]int, ringBlocks*g.Block)}, api.OK
}

// validGate reports whether g is as a gate has to be.
func validGate(g api.Gate) bool {
	return whole.Within(g.Block, 1, api.MaxFrame) &&
		whole.Within(g.High, 0, mostEnergy) && whole.Within(g.Low, 0, g.High) &&
		whole.Within(g.Rise, 1, mostRun) && whole.Within(g.Fall, 1, mostRun) && whole.Within(g.Lead, 0, mostLead) &&
		whole.Within(g.Longest, g.Rise+g.Fall+g.Lead, mostBlocks)
}

// isMissing reports whether there is no listener.
func (l *Listener) isMissing() bool { return l == nil || l.state == missing }

// Feed feeds a listener with samples, and returns the segments that ended; ErrState if it has been closed, ErrLong also for too many samples in all.
func (l *Listener) Feed(x ...int) ([]api.Segment, api.Errno) {
	if l.isMissing() {
		return nil, api.ErrNil
	}
	if e := checkSamples(x); e != api.OK {
		return nil, e
	}
	if l.state == closed {
		return nil, api.ErrState
	}
	if len(x) > mostArrived-l.arrived {
		return nil, api.ErrLong
	}
	var ended []api.Segment
	for len(x) > 0 {
		x = x[l.fill(x):]
		if l.arrived%l.gate.Block > 0 {
			break
		}
		if s, ok := l.hear(l.arrived/l.gate.Block - 1); ok {
			ended = append(ended, s)
		}
	}
	return ended, api.OK
}

// block returns the place of the block b in the ring.
func (l *Listener) block(b int) []int {
	from := b % ringBlocks * l.gate.Block
	to := from + l.gate.Block
	return l.ring[from:to:to]
}

// fill puts samples into the block that is not complete, until it is or there are no more, and returns how many it took.
func (l *Listener) fill(x []int) int {
	block := l.block(l.arrived / l.gate.Block)
	taken := copy(block[l.arrived%l.gate.Block:], x)
	l.arrived += taken
	return taken
}

// hear processes the block b, which has just become complete, and returns the segment that ended thereby, if there is one.
func (l *Listener) hear(b int) (api.Segment, bool) {
	loudness := energy(l.block(b))
	if l.state == waiting {
		l.await(b, loudness >= l.gate.High*l.gate.Block)
		return api.Segment{}, false
	}
	end, ok := l.follow(b, loudness < l.gate.Low*l.gate.Block)
	if !ok {
		return api.Segment{}, false
	}
	l.state, l.run, l.ended = waiting, 0, end
	return api.Segment{From: l.first * l.gate.Block, To: end * l.gate.Block}, true
}

// await begins speech if the block b completes a run of loud blocks.
func (l *Listener) await(b int, loud bool) {
	if !loud {
		l.run = 0
		return
	}
	l.run++
	if l.run == l.gate.Rise {
		l.state, l.run = speech, 0
		l.first = max(b-l.gate.Rise+1-l.gate.Lead, l.ended)
	}
}

// follow goes on with speech, and returns the first block behind it if it ends with the block b.
func (l *Listener) follow(b int, quiet bool) (int, bool) {
	if quiet {
		l.run++
	} else {
		l.run = 0
	}
	if l.run == l.gate.Fall {
		return b - l.gate.Fall + 1, true
	}
	if b+1-l.first == l.gate.Longest {
		return b + 1, true
	}
	return 0, false
}

// Close closes a listener, and returns the segment that ended thereby, if there is one; ErrState if it has been closed before.
func (l *Listener) Close() ([]api.Segment, api.Errno) {
	if l.isMissing() {
		return nil, api.ErrNil
	}
	if l.state == closed {
		return nil, api.ErrState
	}
	var ended []api.Segment
	if l.state == speech {
		ended = []api.Segment{{From: l.first * l.gate.Block, To: l.arrived}}
	}
	// Nothing arrives any more, so that only the number of samples is still asked for.
	*l = Listener{state: closed, arrived: l.arrived}
	return ended, api.OK
}

// At returns how many samples have arrived, and whether somebody speaks.
func (l *Listener) At() (int, bool) {
	if l.isMissing() {
		return 0, false
	}
	return l.arrived, l.state == speech
}
