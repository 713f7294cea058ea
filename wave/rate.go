package wave

import (
	"earshot/api"
	"earshot/whole"
)

// mostChange is the greatest factor by which a rate is multiplied or divided.
const mostChange = 16

// Resample changes the rate of a recording by up / down; ErrArg if the new rate is none, ErrLong if there would be too many samples.
func Resample(r api.Recording, up, down int) (api.Recording, api.Errno) {
	if e := checkRecording(r); e != api.OK {
		return api.Recording{}, e
	}
	if !whole.Within(up, 1, mostChange) || !whole.Within(down, 1, mostChange) {
		return api.Recording{}, api.ErrArg
	}
	product := r.Rate * up
	if product%down != 0 || product/down > api.MaxRate {
		return api.Recording{}, api.ErrArg
	}
	count := whole.DivideUp(len(r.Samples)*up, down)
	if count > api.MaxSamples {
		return api.Recording{}, api.ErrLong
	}
	return api.Recording{Rate: product / down, Samples: interpolate(r.Samples, up, down, count)}, api.OK
}

// interpolate returns so many samples as count says, at the distance down / up.
func interpolate(x []int, up, down, count int) []int {
	smoothed := smooth(x, whole.DivideUp(down, up))
	samples := make([]int, count)
	for j := range samples {
		i, part := j*down/up, j*down%up
		samples[j] = whole.Divide(smoothed[i]*(up-part)+smoothed[i+1]*part, up)
	}
	return samples
}

// smooth returns, for each sample and for one behind the last one, the mean of as many samples from there on as width says.
func smooth(x []int, width int) []int {
	if len(x) == 0 {
		return nil
	}
	at := func(i int) int { return x[min(i, len(x)-1)] }
	sum := 0
	for i := range width {
		sum += at(i)
	}
	means := make([]int, len(x)+1)
	for i := range means {
		means[i] = whole.Divide(sum, width)
		sum += at(i+width) - at(i)
	}
	return means
}
