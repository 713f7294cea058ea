package numbers

import (
	"math/big"
	"math/rand"
	"testing"

	"earshot/api"
)

// integer returns an integer with up to so many digits, the first of which may have few bits, or 0.
func integer(r *rand.Rand, most int) []uint32 {
	digits := make([]uint32, 1+r.Intn(most))
	for i := range digits {
		digits[i] = []uint32{0, ^uint32(0), r.Uint32(), r.Uint32() >> r.Intn(32)}[r.Intn(4)]
	}
	return digits
}

// value returns the number with the given digits, computed without the program.
func value(digits []uint32) *big.Int {
	n := new(big.Int)
	for i := len(digits) - 1; i >= 0; i-- {
		n.Lsh(n, 32).Or(n, big.NewInt(int64(digits[i])))
	}
	return n
}

// exact returns what first bits say.
func (a leading) exact() *big.Rat {
	n, d := new(big.Int).SetUint64(a.head), big.NewInt(1)
	if a.exponent > 0 {
		n.Lsh(n, uint(a.exponent))
	} else {
		d.Lsh(d, uint(-a.exponent))
	}
	return new(big.Rat).SetFrac(n, d)
}

// isNear reports whether a is wrong by less than so many parts of 2 to the power 63.
func isNear(a leading, x *big.Rat, parts int64) bool {
	wrong := a.exact()
	wrong.Sub(wrong, x).Abs(wrong)
	allowed := new(big.Rat).SetFrac(big.NewInt(parts), new(big.Int).Lsh(big.NewInt(1), 63))
	return x.Sign() == 0 && a.head == 0 || wrong.Cmp(allowed.Mul(allowed, x)) < 0 && a.head>>63 == 1
}

// TestLeading checks how wrong first bits may be: of numbers, of products of two, and of products of many.
func TestLeading(t *testing.T) {
	r := rand.New(rand.NewSource(1))
	for range 300 {
		product, x := One(), big.NewRat(1, 1)
		for n := range 40 {
			a := api.Frac{N: integer(r, 4), D: append(integer(r, 4), uint32(r.Intn(2)))}
			if value(a.D).Sign() == 0 {
				a.D = nil
			}
			y := new(big.Rat).SetFrac(value(a.N), value(bottom(a).N))
			first := leadingOf(a)
			if !isNear(first, y, 2) {
				t.Fatalf("%v: %v", a, first)
			}
			if z := new(big.Rat).Mul(first.exact(), product.first.exact()); !isNear(first.times(product.first), z, 1) {
				t.Fatalf("%v times %v: %v", first, product.first, first.times(product.first))
			}
			if y.Sign() == 0 {
				continue
			}
			product, x = product.Times(FactorOf(a)), x.Mul(x, y)
			if !isNear(product.first, x, int64(4*(n+1))) || product.last.size() > n+1 {
				t.Fatalf("%d factors: %v, not %v", n+1, product.first, x)
			}
		}
	}
}

// TestCompareLeading checks that first bits tell the order only if they can.
func TestCompareLeading(t *testing.T) {
	const top = 1 << 63
	for _, c := range []struct {
		a, b  leading
		units uint64
		want  int
	}{
		{leading{top, 0}, leading{top, 0}, 0, 0}, {leading{top + 1, 0}, leading{top, 0}, 0, 1}, {leading{top + 1, 0}, leading{top, 0}, 1, 0}, {leading{top + 17, 5}, leading{top, 5}, 16, 1}, {leading{top + 16, 5}, leading{top, 5}, 16, 0},
		{leading{top, 1}, leading{top, 0}, 100, 1}, {leading{top, 1}, leading{1<<64 - 2, 0}, 1, 0}, {leading{top, 1}, leading{1<<64 - 4, 0}, 1, 1}, {leading{top, 2}, leading{1<<64 - 1, 0}, 1000, 1}, {leading{top, 70}, leading{1<<64 - 1, -1000000}, 1000, 1},
	} {
		if got, back := c.a.compare(c.b, c.units), c.b.compare(c.a, c.units); got != c.want || back != -c.want {
			t.Errorf("%v and %v: %d and %d", c.a, c.b, got, back)
		}
	}
}
