package wave

import (
	"slices"

	"earshot/api"
	"earshot/whole"
)

// Segments returns all segments of a list of samples; ErrArg if the gate or a sample is wrong.
func Segments(x []int, g api.Gate) ([]api.Segment, api.Errno) {
	if len(x) > api.MaxSamples {
		return nil, api.ErrLong
	}
	l, e := Listen(g)
	if e != api.OK {
		return nil, e
	}
	list, e := l.Feed(x...)
	if e != api.OK {
		return nil, e
	}
	last, e := l.Close()
	return append(list, last...), e
}

// Clip returns the samples of a recording that a segment contains; ErrArg if it is no part of the recording.
func Clip(r api.Recording, s api.Segment) (api.Recording, api.Errno) {
	if e := checkRecording(r); e != api.OK {
		return api.Recording{}, e
	}
	if !whole.Within(s.To, 0, len(r.Samples)) || !whole.Within(s.From, 0, s.To) {
		return api.Recording{}, api.ErrArg
	}
	return api.Recording{Rate: r.Rate, Samples: slices.Clone(r.Samples[s.From:s.To])}, api.OK
}
