package feature

import (
	"earshot/api"
	"earshot/frac"
	"earshot/whole"
)

// mostLine is the greatest absolute value of a number of a spectrum.
const mostLine = 1 << 24

// A logarithm counts the steps in which a number is doubled; the number 0 has a logarithm of its own.
const (
	stepsOfDouble = 16
	logOfNothing  = -16
)

// Bands returns the bands of a spectrum; ErrArg if there are no such edges, or if the spectrum is too long or has an element that is out of range.
func Bands(s []int, edges []int) ([]int, api.Errno) {
	if len(s) > mostPoints || !allUpTo(s, mostLine) || !areEdges(edges, len(s)) {
		return nil, api.ErrArg
	}
	bands := make([]int, len(edges)-1)
	for b := range bands {
		for _, n := range s[edges[b]:edges[b+1]] {
			bands[b] += n * n
		}
	}
	return bands, api.OK
}

// areEdges reports whether edges cut a spectrum of n numbers into bands.
func areEdges(edges []int, n int) bool {
	for i := 1; i < len(edges); i++ {
		if edges[i-1] >= edges[i] {
			return false
		}
	}
	return len(edges) >= 2 && whole.AllWithin(edges, 0, n)
}

// Log returns 16 times the logarithm to base 2, rounded down, and -16 for 0; ErrArg if e is negative.
func Log(e int) (int, api.Errno) {
	if e < 0 {
		return 0, api.ErrArg
	}
	if e == 0 {
		return logOfNothing, api.OK
	}
	power, err := frac.Pow(frac.Of(e), stepsOfDouble)
	// The size of an integer is one more than the number of its binary digits: the denominator 1 counts, too.
	return frac.Size(power) - 2, err
}

// Cepstrum returns the first numbers of the spectrum of a list with added zeros; ErrArg if the list or the count is out of range.
func Cepstrum(x []int, count int) ([]int, api.Errno) {
	if !whole.Within(len(x), 1, mostPoints) || !whole.Within(count, 1, lengthFor(len(x))) {
		return nil, api.ErrArg
	}
	s, e := Spectrum(extend(x, lengthFor(len(x))))
	if e != api.OK {
		return nil, e
	}
	return s[:count:count], api.OK
}

// extend returns a list with zeros added until it has n elements.
func extend(x []int, n int) []int {
	longer := make([]int, n)
	copy(longer, x)
	return longer
}
