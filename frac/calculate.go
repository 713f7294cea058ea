package frac

import "earshot/api"

// Add returns a + b.
func Add(a, b api.Frac) api.Frac { return total(load(a), load(b)).store() }

// Sub returns a - b.
func Sub(a, b api.Frac) api.Frac { return total(load(a), load(b).minus()).store() }

// Mul returns a times b.
func Mul(a, b api.Frac) api.Frac { return load(a).times(load(b)).store() }

// Div returns a divided by b; ErrZero if b is 0.
func Div(a, b api.Frac) (api.Frac, api.Errno) {
	divisor := load(b)
	if divisor.sign() == 0 {
		return api.Frac{}, api.ErrZero
	}
	return load(a).times(divisor.invert()).store(), api.OK
}

// Neg returns -a.
func Neg(a api.Frac) api.Frac { return load(a).minus().store() }

// Pow returns a to the power n; ErrLong if n is not from -api.MaxPower to api.MaxPower, ErrZero if a is 0 and n is negative.
func Pow(a api.Frac, n int) (api.Frac, api.Errno) {
	if n > api.MaxPower || n < -api.MaxPower {
		return api.Frac{}, api.ErrLong
	}
	base := load(a).reduce()
	if n < 0 {
		if base.sign() == 0 {
			return api.Frac{}, api.ErrZero
		}
		base, n = base.invert(), -n
	}
	// Powers of numbers without a common divisor have none either.
	power := signed(base.negative && n%2 == 1, base.n.pow(n), base.d.pow(n))
	return power.keep(), api.OK
}

// Sum returns the sum of numbers, 0 for none.
func Sum(l ...api.Frac) api.Frac { return total(loadAll(l)...).store() }

// Product returns the product of numbers, 1 for none.
func Product(l ...api.Frac) api.Frac { return product(loadAll(l)...).store() }

// Floor returns the greatest number n / d with an integer n that is not greater than a; ErrArg if d is less than 1.
func Floor(a api.Frac, d int) (api.Frac, api.Errno) {
	if d < 1 {
		return api.Frac{}, api.ErrArg
	}
	scale := whole(d)
	return load(a).times(scale).floor().times(scale.invert()).store(), api.OK
}

// Size returns the number of binary digits of the numerator plus that of the denominator, in lowest terms.
func Size(a api.Frac) int {
	r := load(a).reduce()
	return r.n.size() + r.d.size()
}
