package wave

import (
	"earshot/api"
	"earshot/whole"
)

// mostParts is the greatest denominator of an emphasis.
const mostParts = 1024

// Emphasize returns the emphasis of a list of values; ErrArg also if an element of the result is not a value.
func Emphasize(x []int, num, den int) ([]int, api.Errno) {
	if e := checkEmphasis(x, num, den); e != api.OK {
		return nil, e
	}
	y := make([]int, len(x))
	before := 0
	for i, value := range x {
		y[i] = value - whole.Divide(num*before, den)
		before = value
	}
	return onlyValues(y)
}

// Restore undoes an emphasis; ErrArg also if an element of the result is not a value.
func Restore(x []int, num, den int) ([]int, api.Errno) {
	if e := checkEmphasis(x, num, den); e != api.OK {
		return nil, e
	}
	// An element exceeds the one before by at most a value, so that even MaxSamples of them do not overflow.
	y := make([]int, len(x))
	before := 0
	for i, value := range x {
		y[i] = value + whole.Divide(num*before, den)
		before = y[i]
	}
	return onlyValues(y)
}

// checkEmphasis returns the error of the arguments of an emphasis.
func checkEmphasis(x []int, num, den int) api.Errno {
	if e := checkValues(x); e != api.OK {
		return e
	}
	if !whole.Within(den, 1, mostParts) || !whole.Within(num, 0, den) {
		return api.ErrArg
	}
	return api.OK
}

// onlyValues returns a result; ErrArg if an element is not a value.
func onlyValues(y []int) ([]int, api.Errno) {
	if !whole.AllWithin(y, -api.MaxValue, api.MaxValue) {
		return nil, api.ErrArg
	}
	return y, api.OK
}
