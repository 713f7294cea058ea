// Package frac is layer 1: exact rational numbers, distributions, and decimal strings. See shared/doc/01-frac.md.
package frac

import (
	"math"

	"earshot/api"
)

// Canonical reports whether a is canonical: in lowest terms, and without digits that do not matter.
func Canonical(a api.Frac) bool {
	n, d := fromDigits(a.N), fromDigits(a.D)
	if endsWithZero(a.N) || endsWithZero(a.D) || d.isOne() {
		return false
	}
	if len(n) == 0 {
		return len(d) == 0 && !a.Neg
	}
	return len(d) == 0 || n.gcd(d).isOne()
}

func endsWithZero(digits []uint32) bool {
	return len(digits) > 0 && digits[len(digits)-1] == 0
}

// Canon returns the canonical Frac with the value of a.
func Canon(a api.Frac) api.Frac { return load(a).store() }

// Of returns n.
func Of(n int) api.Frac { return whole(n).keep() }

// Make returns n / d; ErrZero if d is 0.
func Make(n, d int) (api.Frac, api.Errno) {
	if d == 0 {
		return api.Frac{}, api.ErrZero
	}
	return whole(n).times(whole(d).invert()).store(), api.OK
}

// Whole returns the greatest integer that is not greater than a; ErrBig if it is no int.
func Whole(a api.Frac) (int, api.Errno) {
	floor := load(a).floor()
	if len(floor.n) == 0 {
		return 0, api.OK
	}
	size, most := floor.n[0], uint64(math.MaxInt)
	if floor.negative {
		most++
	}
	if len(floor.n) > 1 || size > most {
		return 0, api.ErrBig
	}
	if floor.negative {
		return -int(size), api.OK
	}
	return int(size), api.OK
}
