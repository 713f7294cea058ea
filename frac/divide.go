package frac

import (
	"math"
	"math/bits"
	"slices"
)

// divide returns a divided by b, rounded down, and the remainder. b is not 0.
func (a natural) divide(b natural) (quotient, rest natural) {
	if a.cmp(b) < 0 {
		return nil, a
	}
	if len(b) == 1 {
		quotient = slices.Clone(a)
		rest = natural{quotient.shrink(b[0])}
		return quotient.trim(), rest.trim()
	}
	shift := bits.LeadingZeros64(b[len(b)-1])
	divisor := b.shiftLeft(shift)
	rest = a.shiftLeft(shift)
	rest = rest.stretch(len(a) + 1)
	quotient = longDivision(rest, divisor)
	return quotient.trim(), rest.trim().shiftRight(shift)
}

// shrink divides the digits of a by a digit, which is not 0, and returns the remainder.
func (a natural) shrink(digit uint64) uint64 {
	var rest uint64
	for i := len(a) - 1; i >= 0; i-- {
		a[i], rest = bits.Div64(rest, a[i], digit)
	}
	return rest
}

// modulo returns the remainder of a divided by a digit, which is not 0.
func (a natural) modulo(digit uint64) uint64 {
	var rest uint64
	for i := len(a) - 1; i >= 0; i-- {
		_, rest = bits.Div64(rest, a[i], digit)
	}
	return rest
}

// longDivision returns the quotient and leaves the remainder in rest. The divisor has at least two digits and its highest bit set; rest has more digits, and its last ones, as many as the divisor has, are less than it.
func longDivision(rest, divisor natural) natural {
	n := len(divisor)
	quotient := make(natural, len(rest)-n)
places:
	for i := len(quotient) - 1; ; i-- {
		part := rest[i : i+n+1]
		digit := guessDigit(part, divisor)
		borrow := part[:n].decreaseTimes(divisor, digit)
		short := borrow > part[n]
		part[n] -= borrow
		for {
			if !short {
				quotient[i] = digit
				if i == 0 {
					break places
				}
				continue places
			}
			digit--
			short = !part.increase(divisor)
		}
	}
	return quotient
}

// guessDigit returns the digit of the quotient of part and divisor, or one that is greater by at most 2 (Knuth): it looks at the most significant digits only.
func guessDigit(part, divisor natural) uint64 {
	n := len(divisor)
	first := divisor[n-1]
	if part[n] >= first {
		return math.MaxUint64
	}
	digit, _ := bits.Div64(part[n], part[n-1], first)
	return digit
}
