package frac

import (
	"math/bits"
	"slices"
)

// natural is a natural number: its digits of 64 bits in increasing significance. The last digit is not 0, so 0 has no digits.
type natural []uint64

// one returns 1.
func one() natural { return natural{1} }

// fromDigits returns the number with the given digits of 32 bits.
func fromDigits(digits []uint32) natural {
	a := make(natural, (len(digits)+1)/2)
	for i, digit := range digits {
		a[i/2] |= uint64(digit) << (32 * (i % 2))
	}
	return a.trim()
}

// digits returns the digits of 32 bits of a, of which the last one is not 0.
func (a natural) digits() []uint32 {
	if len(a) == 0 {
		return nil
	}
	list := make([]uint32, (a.size()+31)/32)
	for i := range list {
		list[i] = uint32(a[i/2] >> (32 * (i % 2)))
	}
	return list
}

// trim leaves out the digits 0 at the end.
func (a natural) trim() natural {
	n := len(a)
	for n > 0 && a[n-1] == 0 {
		n--
	}
	return a[:n]
}

// stretch returns a with digits 0 added at its end, until there are n digits.
func (a natural) stretch(n int) natural {
	return append(a, make(natural, n-len(a))...)
}

// size returns the number of binary digits.
func (a natural) size() int {
	if len(a) == 0 {
		return 0
	}
	last := len(a) - 1
	return 64*last + bits.Len64(a[last])
}

// isOne reports whether a is 1.
func (a natural) isOne() bool { return len(a) == 1 && a[0] == 1 }

// cmp returns the sign of a - b.
func (a natural) cmp(b natural) int {
	if len(a) != len(b) {
		if len(a) < len(b) {
			return -1
		}
		return 1
	}
	for i := len(a) - 1; i >= 0; i-- {
		if a[i] < b[i] {
			return -1
		}
		if a[i] > b[i] {
			return 1
		}
	}
	return 0
}

// add returns a + b.
func (a natural) add(b natural) natural {
	if len(a) < len(b) {
		a, b = b, a
	}
	sum := make(natural, len(a)+1)
	copy(sum, a)
	sum.increase(b)
	return sum.trim()
}

// sub returns a - b, where b is at most a.
func (a natural) sub(b natural) natural {
	rest := slices.Clone(a)
	rest.decrease(b)
	return rest.trim()
}

// increase adds b to the digits of a, which are at least as many, and reports whether a 1 is carried out of them.
func (a natural) increase(b natural) bool {
	var carry uint64
	for i, digit := range b {
		a[i], carry = bits.Add64(a[i], digit, carry)
	}
	for i := len(b); carry > 0 && i < len(a); i++ {
		a[i], carry = bits.Add64(a[i], 0, carry)
	}
	return carry > 0
}

// decrease subtracts b, which is at most a, from the digits of a.
func (a natural) decrease(b natural) {
	var borrow uint64
	for i, digit := range b {
		a[i], borrow = bits.Sub64(a[i], digit, borrow)
	}
	for i := len(b); borrow > 0; i++ {
		a[i], borrow = bits.Sub64(a[i], 0, borrow)
	}
}

// shiftLeft returns a times 2 to the power n, for n less than 64.
func (a natural) shiftLeft(n int) natural {
	shifted := make(natural, len(a)+1)
	for i, digit := range a {
		shifted[i] |= digit << n
		shifted[i+1] = digit >> (64 - n)
	}
	return shifted.trim()
}

// shiftRight returns a divided by 2 to the power n, rounded down, for n less than 64.
func (a natural) shiftRight(n int) natural {
	shifted := make(natural, len(a))
	for i, digit := range a {
		shifted[i] = digit >> n
		if i > 0 {
			shifted[i-1] |= digit << (64 - n)
		}
	}
	return shifted.trim()
}

// fold combines a start value with the elements of a list, one after the other.
func fold(combine func(a, b natural) natural, start natural, list ...natural) natural {
	for _, a := range list {
		start = combine(start, a)
	}
	return start
}
