package frac

import "math/bits"

// fewDigits is the number of digits below which plain multiplication is faster than multiplication by halves.
const fewDigits = 40

// mul returns a times b.
func (a natural) mul(b natural) natural {
	if len(a) < len(b) {
		a, b = b, a
	}
	if len(b) < fewDigits {
		return a.mulPlain(b)
	}
	return a.mulHalves(b)
}

// mulPlain multiplies digit by digit.
func (a natural) mulPlain(b natural) natural {
	product := make(natural, len(a)+len(b))
	for i, digit := range b {
		product[i+len(a)] = product[i:i+len(a)].increaseTimes(a, digit)
	}
	return product.trim()
}

// mulHalves multiplies the halves of a and b (Karatsuba): three products of half the length do the work of four.
func (a natural) mulHalves(b natural) natural {
	half := (len(a) + 1) / 2
	product := make(natural, len(a)+len(b)+1)
	lowA, highA := a[:half].trim(), a[half:]
	if len(b) <= half {
		product.increase(lowA.mul(b))
		product[half:].increase(highA.mul(b))
		return product.trim()
	}
	lowB, highB := b[:half].trim(), b[half:]
	low, high := lowA.mul(lowB), highA.mul(highB)
	middle := lowA.add(highA).mul(lowB.add(highB))
	middle.decrease(low)
	middle.decrease(high)
	product.increase(low)
	product[half:].increase(middle.trim())
	product[2*half:].increase(high)
	return product.trim()
}

// increaseTimes adds b times a digit to a, which has as many digits as b, and returns what is carried out of them.
func (a natural) increaseTimes(b natural, digit uint64) uint64 {
	var carry uint64
	for i := range b {
		high, low := bits.Mul64(b[i], digit)
		var more uint64
		low, more = bits.Add64(low, carry, 0)
		high += more
		a[i], more = bits.Add64(a[i], low, 0)
		carry = high + more
	}
	return carry
}

// decreaseTimes subtracts b times a digit from a, which has as many digits as b, and returns what is borrowed.
func (a natural) decreaseTimes(b natural, digit uint64) uint64 {
	var borrow uint64
	for i := range b {
		high, low := bits.Mul64(b[i], digit)
		var more uint64
		low, more = bits.Add64(low, borrow, 0)
		high += more
		a[i], more = bits.Sub64(a[i], low, 0)
		borrow = high + more
	}
	return borrow
}

// pow returns a to the power n, which is not negative.
func (a natural) pow(n int) natural {
	power := one()
	for i := bits.Len(uint(n)) - 1; i >= 0; i-- {
		power = power.mul(power)
		if n>>i&1 == 1 {
			power = power.mul(a)
		}
	}
	return power
}
