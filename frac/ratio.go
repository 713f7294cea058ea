package frac

import (
	"cmp"

	"earshot/api"
)

// ratio is the number n / d, or -n / d if negative. d is not 0; n and d may have common divisors; 0 is not negative.
type ratio struct {
	negative bool
	n        natural
	d        natural
}

// load returns the value of a.
func load(a api.Frac) ratio {
	d := fromDigits(a.D)
	if len(d) == 0 {
		d = one()
	}
	return signed(a.Neg, fromDigits(a.N), d)
}

// loadAll returns the values of a list.
func loadAll(l []api.Frac) []ratio {
	list := make([]ratio, len(l))
	for i, a := range l {
		list[i] = load(a)
	}
	return list
}

// signed returns n / d, or -n / d if negative.
func signed(negative bool, n, d natural) ratio {
	return ratio{negative && len(n) > 0, n, d}
}

// whole returns n.
func whole(n int) ratio {
	size := uint64(n)
	if n < 0 {
		size = -size
	}
	return ratio{n < 0, natural{size}.trim(), one()}
}

// reduce returns r in lowest terms.
func (r ratio) reduce() ratio {
	if r.d.isOne() {
		return r
	}
	common := r.n.gcd(r.d)
	if common.isOne() {
		return r
	}
	n, _ := r.n.divide(common)
	d, _ := r.d.divide(common)
	return ratio{r.negative, n, d}
}

// store returns the canonical Frac with the value r.
func (r ratio) store() api.Frac {
	return r.reduce().keep()
}

// keep returns the canonical Frac with the value r, which is in lowest terms.
func (r ratio) keep() api.Frac {
	a := api.Frac{Neg: r.negative, N: r.n.digits()}
	if !r.d.isOne() {
		a.D = r.d.digits()
	}
	return a
}

// sign returns -1, 0 or 1.
func (r ratio) sign() int {
	if r.negative {
		return -1
	}
	return min(len(r.n), 1)
}

// minus returns -r.
func (r ratio) minus() ratio {
	return signed(!r.negative, r.n, r.d)
}

// invert returns 1 / r. r is not 0.
func (r ratio) invert() ratio {
	return ratio{r.negative, r.d, r.n}
}

// times returns r times s.
func (r ratio) times(s ratio) ratio {
	return signed(r.negative != s.negative, r.n.mul(s.n), r.d.mul(s.d))
}

// cmp returns the sign of r - s.
func (r ratio) cmp(s ratio) int {
	if order := cmp.Compare(r.sign(), s.sign()); order != 0 {
		return order
	}
	order := r.n.mul(s.d).cmp(s.n.mul(r.d))
	if r.negative {
		return -order
	}
	return order
}

// floor returns the greatest integer that is not greater than r.
func (r ratio) floor() ratio {
	quotient, rest := r.n.divide(r.d)
	if r.negative && len(rest) > 0 {
		quotient = quotient.add(one())
	}
	return signed(r.negative, quotient, one())
}

// total returns the sum of a list.
func total(list ...ratio) ratio {
	bottoms := make([]natural, len(list))
	for i, r := range list {
		bottoms[i] = r.d
	}
	d := fold(natural.lcm, one(), bottoms...)
	var gains, losses []natural
	for _, r := range list {
		n := r.n
		if r.d.cmp(d) != 0 {
			scale, _ := d.divide(r.d)
			n = n.mul(scale)
		}
		if r.negative {
			losses = append(losses, n)
		} else {
			gains = append(gains, n)
		}
	}
	gain, loss := fold(natural.add, nil, gains...), fold(natural.add, nil, losses...)
	if gain.cmp(loss) < 0 {
		return ratio{true, loss.sub(gain), d}
	}
	return ratio{false, gain.sub(loss), d}
}

// product returns the product of a list.
func product(list ...ratio) ratio {
	negative := false
	tops, bottoms := make([]natural, len(list)), make([]natural, len(list))
	for i, r := range list {
		negative = negative != r.negative
		tops[i], bottoms[i] = r.n, r.d
	}
	return signed(negative, fold(natural.mul, one(), tops...), fold(natural.mul, one(), bottoms...))
}
