package feature

import (
	"earshot/api"
	"earshot/wave"
	"earshot/whole"
)

// The bounds of recipes.
const (
	mostParts = 1024
	mostEdges = 33
)

// Valid reports whether a recipe is valid.
func Valid(r api.Recipe) bool {
	return whole.Within(r.Den, 1, mostParts) && whole.Within(r.Num, 0, r.Den) &&
		isLength(r.Points) && whole.Within(r.Size, 1, r.Points) && whole.Within(r.Step, 1, api.MaxFrame) &&
		isWindow(r.Window) &&
		len(r.Edges) <= mostEdges && areEdges(r.Edges, r.Points) &&
		whole.Within(r.Cepstra, 0, lengthFor(len(r.Edges)-1))
}

// isWindow reports whether there is such a kind of window.
func isWindow(kind api.WindowKind) bool {
	_, e := wave.Window(kind, 1)
	return e == api.OK
}

// Extract returns the features of a recording; ErrArg if the recording or the recipe is not valid, ErrLong if there are too many frames.
func Extract(w api.Recording, r api.Recipe) ([][]int, api.Errno) {
	if !wave.Valid(w) || !Valid(r) {
		return nil, api.ErrArg
	}
	lists := [][]int{w.Samples}
	for _, s := range (applied{r}).steps() {
		if !s.wanted {
			continue
		}
		var e api.Errno
		if lists, e = s.apply(lists); e != api.OK {
			return nil, e
		}
	}
	return lists, api.OK
}

// step is a step from a recording, which is a list of one list, to its features, and whether the recipe wants it.
type step struct {
	wanted bool
	apply  func([][]int) ([][]int, api.Errno)
}

// applied is a valid recipe that is applied.
type applied struct {
	api.Recipe
}

// steps returns the steps of a recipe.
func (r applied) steps() []step {
	return []step{
		{true, each(r.emphasize)},
		{true, r.cut},
		{true, each(r.weigh)},
		{true, each(r.analyze)},
		{true, each(r.measure)},
		{r.Cepstra != 0, each(r.shorten)},
		{r.Differences, Differences},
		{r.Center, Center},
	}
}

// each returns what does the same to each list as f does to one.
func each(f func([]int) ([]int, api.Errno)) func([][]int) ([][]int, api.Errno) {
	return func(lists [][]int) ([][]int, api.Errno) {
		results := make([][]int, len(lists))
		for i, x := range lists {
			y, e := f(x)
			if e != api.OK {
				return nil, e
			}
			results[i] = y
		}
		return results, api.OK
	}
}

// emphasize returns the emphasis of the samples.
func (r applied) emphasize(samples []int) ([]int, api.Errno) {
	return wave.Emphasize(samples, r.Num, r.Den)
}

// cut returns the frames of the only list; ErrLong if there are too many.
func (r applied) cut(lists [][]int) ([][]int, api.Errno) {
	frames, e := wave.Frames(lists[0], r.Size, r.Step, false)
	if len(frames) > api.MaxVectors {
		return nil, api.ErrLong
	}
	return frames, e
}

// weigh returns the weighed frame.
func (r applied) weigh(frame []int) ([]int, api.Errno) {
	return wave.Weigh(frame, r.Window)
}

// analyze returns the spectrum of a weighed frame.
func (r applied) analyze(frame []int) ([]int, api.Errno) {
	return Spectrum(extend(frame, r.Points))
}

// measure returns the logarithms of the bands of a spectrum.
func (r applied) measure(spectrum []int) ([]int, api.Errno) {
	bands, e := Bands(spectrum, r.Edges)
	for b, energy := range bands {
		bands[b], _ = Log(energy)
	}
	return bands, e
}

// shorten returns the cepstrum of the logarithms of bands.
func (r applied) shorten(logs []int) ([]int, api.Errno) {
	return Cepstrum(logs, r.Cepstra)
}
