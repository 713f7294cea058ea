package feature

import (
	"earshot/api"
	"earshot/whole"
)

// The bounds of transforms, and the number that cosines are multiplied by.
const (
	mostPoints = 64
	mostInput  = 1 << 16
	mostOutput = 1 << 40
	scale      = 16384
)

// Cosine returns C(j), the table of cosines continued; ErrArg if j is negative.
func Cosine(j int) (int, api.Errno) {
	if j < 0 {
		return 0, api.ErrArg
	}
	return cosine(j), api.OK
}

// cosine returns C(j), for j that is not negative.
func cosine(j int) int {
	switch m := j % 256; {
	case m <= 64:
		return api.Cosines[m]
	case m <= 128:
		return -api.Cosines[128-m]
	case m <= 192:
		return -api.Cosines[m-128]
	default:
		return api.Cosines[256-m]
	}
}

// turn returns the weight of the element i of a list of n integers in the element k of its transform.
func turn(i, k, n int) int { return cosine((2*i + 1) * k * (mostPoints / n)) }

// isLength reports whether a transform can have the length n: the powers of 2 up to 64 are the divisors of 64.
func isLength(n int) bool { return n > 0 && mostPoints%n == 0 }

// lengthFor returns the least length of a transform that is at least n, which is at most mostPoints.
func lengthFor(n int) int {
	length := 1
	for length < n {
		length *= 2
	}
	return length
}

// Transform returns the transform of a list; ErrArg if its length or an element is out of range.
func Transform(x []int) ([]int, api.Errno) {
	if !isLength(len(x)) || !allUpTo(x, mostInput) {
		return nil, api.ErrArg
	}
	t := make([]int, len(x))
	for k := range t {
		for i, n := range x {
			t[k] += n * turn(i, k, len(x))
		}
	}
	return t, api.OK
}

// Inverse returns the inverse transform of a list; ErrArg if its length or an element is out of range.
func Inverse(t []int) ([]int, api.Errno) {
	if !isLength(len(t)) || !allUpTo(t, mostOutput) {
		return nil, api.ErrArg
	}
	x := make([]int, len(t))
	for i := range x {
		sum := scale * t[0]
		for k := 1; k < len(t); k++ {
			sum += 2 * t[k] * turn(i, k, len(t))
		}
		x[i] = whole.Divide(sum, len(t)*scale*scale)
	}
	return x, api.OK
}

// Spectrum returns the spectrum of a list; ErrArg if its length or an element is out of range.
func Spectrum(x []int) ([]int, api.Errno) {
	s, e := Transform(x)
	for k, n := range s {
		s[k] = whole.Divide(n, scale)
	}
	return s, e
}

// Slack returns by how much the elements of the transform of a list may differ from the exact ones; ErrArg if the list is too long, or an element is out of range.
func Slack(x []int) (int, api.Errno) {
	if len(x) > mostPoints || !allUpTo(x, mostInput) {
		return 0, api.ErrArg
	}
	sum := 0
	for _, n := range x {
		sum += max(n, -n)
	}
	return whole.DivideUp(sum, 2), api.OK
}
