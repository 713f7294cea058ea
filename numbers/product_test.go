package numbers_test

import (
	"math/big"
	"math/rand"
	"slices"
	"testing"

	"earshot/api"
	"earshot/frac"
	"earshot/numbers"
)

// valueOf returns the value of a number that is not negative, computed without the program.
func valueOf(a api.Frac) *big.Rat {
	integer := func(digits []uint32) *big.Int {
		n := new(big.Int)
		for i := len(digits) - 1; i >= 0; i-- {
			n.Lsh(n, 32).Or(n, big.NewInt(int64(digits[i])))
		}
		return n
	}
	n, d := integer(a.N), integer(a.D)
	if d.Sign() == 0 {
		d.SetInt64(1)
	}
	return new(big.Rat).SetFrac(n, d)
}

// long returns an integer with so many digits, of which some are 0 or as great as they can be.
func long(r *rand.Rand, digits int) []uint32 {
	list := make([]uint32, digits)
	for i := range list {
		list[i] = []uint32{0, 1, ^uint32(0), 1 << 31, r.Uint32(), r.Uint32() >> r.Intn(32)}[r.Intn(6)]
	}
	list[digits-1] |= 1
	return list
}

// number returns a number, which is not in lowest terms if it is raw.
func number(r *rand.Rand, digits int, raw bool) api.Frac {
	a := api.Frac{N: long(r, 1+r.Intn(digits)), D: long(r, 1+r.Intn(digits))}
	switch r.Intn(8) {
	case 0:
		a.D = nil
	case 1:
		a.N = nil
	case 2:
		a.N = a.D
	}
	if raw {
		a.N, a.D = append(slices.Clone(a.N), make([]uint32, r.Intn(3))...), append(slices.Clone(a.D), make([]uint32, r.Intn(3))...)
		return a
	}
	return frac.Canon(a)
}

// TestProduct compares products and their order with those of math/big.
func TestProduct(t *testing.T) {
	r := rand.New(rand.NewSource(1))
	for i := range 3000 {
		raw := i%3 == 0
		factors := make([]*numbers.Factor, r.Intn(6))
		p, want := numbers.One(), big.NewRat(1, 1)
		for k := range factors {
			a := number(r, 4, raw)
			factors[k] = numbers.FactorOf(a)
			want.Mul(want, valueOf(a))
		}
		p = p.Times(factors...)
		if got := p.Exact(); !raw && (valueOf(got).Cmp(want) != 0 || !frac.Canonical(got)) {
			t.Fatalf("%v: %v, not %v", factors, got, want)
		}
		a := number(r, 4, raw)
		q := numbers.One().Times(numbers.FactorOf(a))
		if p.Compare(q) != want.Cmp(valueOf(a)) || q.Compare(p) != valueOf(a).Cmp(want) {
			t.Fatalf("%v and %v", want, a)
		}
	}
}

// TestNearProducts compares products that are equal, or nearly.
func TestNearProducts(t *testing.T) {
	r := rand.New(rand.NewSource(2))
	orders := map[int]int{}
	for range 2000 {
		begin := number(r, 3, false)
		common := numbers.One().Times(numbers.FactorOf(begin))
		var list, other []*numbers.Factor
		x := big.NewRat(1, 1)
		for range 1 + r.Intn(5) {
			a := number(r, 3, false)
			if frac.Sign(a) == 0 {
				continue
			}
			x.Mul(x, valueOf(a))
			list = append(list, numbers.FactorOf(a))
			other = append(other, numbers.FactorOf(frac.Canon(a)))
		}
		r.Shuffle(len(other), func(i, j int) { other[i], other[j] = other[j], other[i] })
		nudge := frac.Of(1)
		if n := r.Intn(3); n > 0 {
			digits := r.Intn(5)
			nudge = frac.Add(nudge, frac.Canon(api.Frac{Neg: n == 1, N: []uint32{1}, D: append(make([]uint32, digits), 5+r.Uint32()>>r.Intn(30))}))
		}
		other = append(other, numbers.FactorOf(nudge))
		if r.Intn(2) == 0 { // as many factors in both lists
			list = slices.Insert(list, r.Intn(len(list)+1), numbers.FactorOf(frac.Of(1)))
		}
		p, q := common.Times(list...), common.Times(other...)
		want := 0
		if frac.Sign(begin) > 0 {
			want = frac.Cmp(frac.Of(1), nudge)
		}
		if p.Compare(q) != want || q.Compare(p) != -want {
			t.Fatalf("%v times %v, and times %v: %d, not %d", x, begin, nudge, p.Compare(q), want)
		}
		orders[want]++
	}
	if orders[-1] < 200 || orders[0] < 200 || orders[1] < 200 {
		t.Error(orders)
	}
}

// TestManyFactors compares products of thousands of factors that differ in the last one at most.
func TestManyFactors(t *testing.T) {
	third, half := numbers.FactorOf(row(t, "1/3")[0]), numbers.FactorOf(row(t, "1/2")[0])
	p, q := numbers.One(), numbers.One()
	for range 3000 {
		p, q = p.Times(third, half), q.Times(half)
	}
	for range 3000 {
		q = q.Times(third)
	}
	if p.Compare(q) != 0 || q.Compare(p) != 0 {
		t.Error("not equal")
	}
	nearly := numbers.FactorOf(row(t, "1000000000000000000000000000001/1000000000000000000000000000000")[0])
	if p.Compare(q.Times(nearly)) != -1 || p.Times(nearly).Compare(q) != 1 || p.Times(nearly).Compare(q.Times(nearly)) != 0 {
		t.Error("nearly equal")
	}
	want := numbers.Power(row(t, "1/6")[0], 3000)
	if frac.Cmp(p.Exact(), want) != 0 || frac.Cmp(q.Exact(), want) != 0 {
		t.Error("Exact")
	}
}

// TestZeroAndOne checks the numbers 0 and 1, also as factors.
func TestZeroAndOne(t *testing.T) {
	var zero numbers.Product
	one, nothing, unit := numbers.One(), numbers.FactorOf(api.Frac{}), numbers.FactorOf(frac.Of(1))
	if texts([]api.Frac{zero.Exact(), one.Exact(), one.Times().Exact(), one.Times(unit).Exact(), one.Times(nothing).Exact(), zero.Times(unit).Exact(), one.Times(unit, nothing, unit).Exact()}) != "0 1 1 1 0 0 0" {
		t.Error("Exact")
	}
	for _, x := range []struct {
		p, q numbers.Product
		want int
	}{
		{zero, zero, 0}, {zero, one, -1}, {one, zero, 1}, {one, one.Times(unit), 0}, {one.Times(nothing), zero, 0}, {zero.Times(unit), one.Times(nothing), 0}, {one.Times(nothing), one, -1}, {one.Times(unit), one.Times(nothing, unit), 1},
	} {
		if got := x.p.Compare(x.q); got != x.want {
			t.Errorf("%s and %s: %d", frac.Text(x.p.Exact()), frac.Text(x.q.Exact()), got)
		}
	}
}

// TestProductMemory checks that what Exact returns is new memory.
func TestProductMemory(t *testing.T) {
	a := row(t, "5/7 11/13")
	p := numbers.One().Times(numbers.FactorOf(a[0]))
	for _, q := range []numbers.Product{numbers.One(), p, p.Times(numbers.FactorOf(a[1]))} {
		want := frac.Text(q.Exact())
		x := q.Exact()
		clear(x.N)
		clear(x.D)
		if frac.Text(q.Exact()) != want {
			t.Errorf("%s has changed", want)
		}
	}
	if numbers.FactorOf(a[0]).Exact().N[0] != 5 || texts(a) != "5/7 11/13" {
		t.Error("the factors have changed")
	}
}

// TestProductOf compares with products of one number after the other.
func TestProductOf(t *testing.T) {
	r := rand.New(rand.NewSource(3))
	for _, n := range []int{0, 1, 2, 99, 100, 101, 250} {
		list := make([]api.Frac, n)
		want := big.NewRat(1, 1)
		for i := range list {
			list[i] = frac.Canon(api.Frac{N: []uint32{1 + r.Uint32()>>20}, D: []uint32{1 + r.Uint32()>>20}})
			want.Mul(want, valueOf(list[i]))
		}
		if got := numbers.ProductOf(list); valueOf(got).Cmp(want) != 0 || !frac.Canonical(got) {
			t.Errorf("%d numbers: %v", n, got)
		}
	}
}
