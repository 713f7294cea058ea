package frac

import (
	"math/bits"
	"slices"
)

// row is a number of Euclid's algorithm for x and y: own times x minus other times y, or the same with x and y exchanged. Head is computed with the leading bits of x and y only.
type row struct {
	head  uint64
	own   uint64
	other uint64
}

// gcd returns the greatest common divisor. It makes many steps of Euclid's algorithm at once, as far as leading bits determine them (Lehmer).
func (a natural) gcd(b natural) natural {
	if a.cmp(b) < 0 {
		a, b = b, a
	}
	if len(b) > 1 {
		a, b = reduceTogether(slices.Clone(a), slices.Clone(b))
	}
	if len(b) == 0 {
		return a
	}
	x, y := b[0], a.modulo(b[0])
	for y > 0 {
		x, y = y, x%y
	}
	return natural{x}
}

// reduceTogether replaces a and b, of which a is not less, by later numbers of Euclid's algorithm, of which the second one has at most one digit.
func reduceTogether(a, b natural) (natural, natural) {
	spare := make(natural, len(a))
	for len(b) > 1 {
		b = b.stretch(len(a))
		top, low, exchanged := foresee(a, b)
		if low.other == 0 {
			b = b.trim()
			_, rest := a.divide(b)
			a, b = b, rest
			continue
		}
		if exchanged {
			a, b = b, a
		}
		spare = spare[:len(a)]
		spare.setDifference(a, top.own, b, top.other)
		b.setDifference(b, low.own, a, low.other)
		a, b, spare = spare.trim(), b.trim(), a
	}
	return a, b
}

// foresee makes the steps of Euclid's algorithm for a and b that are the same for all numbers with these leading bits. It returns the last two rows, and whether their own number is b for the first one and a for the second one.
func foresee(a, b natural) (top, low row, exchanged bool) {
	n := len(a)
	shift := bits.LeadingZeros64(a[n-1])
	top = row{head: a[n-1]<<shift | a[n-2]>>(64-shift), own: 1}
	low = row{head: b[n-1]<<shift | b[n-2]>>(64-shift), own: 1}
	for low.head > 0 {
		times := top.head / low.head
		next := row{top.head - times*low.head, top.own + times*low.other, top.other + times*low.own}
		// The bits that were cut off change a row by less than own upwards and less than other downwards. So this step is certain if next remains at least 0 and less than low in any case (Jebelean). The sum does not overflow: low.head is at least 2 here.
		if next.head < next.other || low.head-next.head < next.own+low.other {
			break
		}
		top, low, exchanged = low, next, !exchanged
	}
	return top, low, exchanged
}

// setDifference sets the digits of a to p times x minus q times y, which is not negative and has no more digits. All three have equally many; a may be x or y.
func (a natural) setDifference(x natural, p uint64, y natural, q uint64) {
	x, y = x[:len(a)], y[:len(a)]
	var carryX, carryY, borrow, more uint64
	for i := range a {
		highX, lowX := bits.Mul64(x[i], p)
		lowX, more = bits.Add64(lowX, carryX, 0)
		carryX = highX + more
		highY, lowY := bits.Mul64(y[i], q)
		lowY, more = bits.Add64(lowY, carryY, 0)
		carryY = highY + more
		a[i], borrow = bits.Sub64(lowX, lowY, borrow)
	}
}

// lcm returns the least common multiple of a and b, which are not 0.
func (a natural) lcm(b natural) natural {
	if a.isOne() || a.cmp(b) == 0 {
		return b
	}
	quotient, _ := a.divide(a.gcd(b))
	return quotient.mul(b)
}
