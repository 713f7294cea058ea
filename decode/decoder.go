package decode

import (
	"earshot/api"
	"earshot/checks"
	"earshot/whole"
)

// Decode searches the best trace.
func Decode(t api.Task, b api.Beam, o []int) (api.Report, api.Errno) {
	if e := checks.First(checkRecording(t, o), checkBeam(b)); e != api.OK {
		return api.Report{}, e
	}
	s, e := begin(t, b).feed(o)
	if e != api.OK {
		return api.Report{}, e
	}
	return s.report(), api.OK
}

// Decoder searches while frames come in.
type Decoder struct {
	search *search
}

// New returns a decoder for a recording that has no frames yet.
func New(t api.Task, b api.Beam) (*Decoder, api.Errno) {
	if e := checks.First(Check(t), checkBeam(b)); e != api.OK {
		return nil, e
	}
	s := begin(t, b)
	return &Decoder{&s}, api.OK
}

// missing reports whether there is no decoder, or a zero one.
func (d *Decoder) missing() bool { return d == nil || d.search == nil }

// Feed adds frames.
func (d *Decoder) Feed(symbols ...int) api.Errno {
	if d.missing() {
		return api.ErrNil
	}
	e := checks.First(checks.Length(len(symbols), api.MaxFrames-d.search.frames), checks.Argument(whole.AllWithin(symbols, 0, d.search.network.symbols-1)))
	if e != api.OK {
		return e
	}
	s, e := d.search.feed(symbols)
	if e == api.OK {
		d.search = &s
	}
	return e
}

// Report returns the report for the frames so far.
func (d *Decoder) Report() (api.Report, api.Errno) {
	if d.missing() {
		return api.Report{}, api.ErrNil
	}
	return d.search.report(), api.OK
}

// Frames returns the number of frames so far.
func (d *Decoder) Frames() int {
	if d.missing() {
		return 0
	}
	return d.search.frames
}

// Sure returns the words that are sure to stand at the beginning: those with which the words of all tokens of the last frame begin.
func (d *Decoder) Sure() []int {
	if d.missing() {
		return nil
	}
	return d.search.sure()
}
