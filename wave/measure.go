package wave

import "earshot/api"

// The least and the greatest number whose energy is measured: differences of samples are among them.
const (
	leastMeasured    = -1 << 16
	greatestMeasured = 1<<16 - 1
)

// Energy returns the sum of the squares; ErrArg if an element is not from -65536 to 65535.
func Energy(x []int) (int, api.Errno) {
	if e := checkList(x, leastMeasured, greatestMeasured); e != api.OK {
		return 0, e
	}
	return energy(x), api.OK
}

// energy returns the sum of the squares.
func energy(x []int) int {
	sum := 0
	for _, n := range x {
		sum += n * n
	}
	return sum
}

// Changes returns the number of changes of sign in a list of values.
func Changes(x []int) (int, api.Errno) {
	if e := checkValues(x); e != api.OK {
		return 0, e
	}
	changes := 0
	for i := 1; i < len(x); i++ {
		if (x[i-1] < 0) != (x[i] < 0) {
			changes++
		}
	}
	return changes, api.OK
}

// Peak returns the index of the first value with the greatest absolute value, -1 if there is none.
func Peak(x []int) (int, api.Errno) {
	if e := checkValues(x); e != api.OK {
		return 0, e
	}
	peak, height := -1, -1
	for i, n := range x {
		if size := max(n, -n); size > height {
			peak, height = i, size
		}
	}
	return peak, api.OK
}
