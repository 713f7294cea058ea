// Tests of P1.3 (Add, Sub, Mul, Div, Neg, Pow), P1.5 (Sum, Product) and P1.6 (Floor, Size).

package frac

import (
	"math"
	"math/big"
	"slices"
	"testing"

	"earshot/api"
)

func TestCalculate(t *testing.T) {
	list := samples(6, 80)
	for _, a := range list {
		x := valueOf(a)
		expect(t, "Neg", Neg(a), new(big.Rat).Neg(x))
		for _, b := range list {
			y := valueOf(b)
			expect(t, "Add", Add(a, b), new(big.Rat).Add(x, y))
			expect(t, "Sub", Sub(a, b), new(big.Rat).Sub(x, y))
			expect(t, "Mul", Mul(a, b), new(big.Rat).Mul(x, y))
			c, e := Div(a, b)
			if y.Sign() == 0 {
				expectError(t, "Div", c, e, api.ErrZero)
			} else {
				expectOK(t, "Div", c, e, new(big.Rat).Quo(x, y))
			}
		}
	}
}

func TestCalculateExamples(t *testing.T) {
	expect(t, "1/2 + 1/3", Add(f(t, "1/2"), f(t, "1/3")), rat(t, "5/6"))
	expect(t, "1/2 - 1/2", Sub(f(t, "1/2"), f(t, "1/2")), rat(t, "0"))
	expect(t, "2/3 times 3/4", Mul(f(t, "2/3"), f(t, "3/4")), rat(t, "1/2"))
	c, e := Div(f(t, "1/2"), f(t, "-1/4"))
	expectOK(t, "1/2 by -1/4", c, e, rat(t, "-2"))
	c, e = Div(Of(1), Of(0))
	expectError(t, "1 by 0", c, e, api.ErrZero)
	c, e = Div(Of(0), api.Frac{Neg: true, N: []uint32{0, 0}, D: []uint32{0}})
	expectError(t, "0 by 0", c, e, api.ErrZero)
	expect(t, "Neg of 0", Neg(api.Frac{}), rat(t, "0"))
}

func same(a, b api.Frac) bool {
	return a.Neg == b.Neg && slices.Equal(a.N, b.N) && slices.Equal(a.D, b.D)
}

// TestField checks the laws of a field.
func TestField(t *testing.T) {
	list := samples(7, 14)
	for _, a := range list {
		if !same(Sub(a, a), api.Frac{}) || !same(Add(a, Neg(a)), api.Frac{}) || !same(Add(a, api.Frac{}), Canon(a)) || !same(Mul(a, Of(1)), Canon(a)) {
			t.Errorf("a - a, a + 0, a 1 for %v", a)
		}
		if c, e := Div(a, a); valueOf(a).Sign() != 0 && (e != api.OK || !same(c, Of(1))) {
			t.Errorf("a / a for %v", a)
		}
		for _, b := range list {
			if !same(Add(a, b), Add(b, a)) || !same(Mul(a, b), Mul(b, a)) {
				t.Errorf("order of %v and %v", a, b)
			}
			for _, c := range list {
				if !same(Add(Add(a, b), c), Add(a, Add(b, c))) || !same(Mul(Mul(a, b), c), Mul(a, Mul(b, c))) || !same(Mul(a, Add(b, c)), Add(Mul(a, b), Mul(a, c))) {
					t.Fatalf("laws for %v, %v, %v", a, b, c)
				}
			}
		}
	}
}

// powerOf returns x to the power n, multiplied step by step.
func powerOf(x *big.Rat, n int) *big.Rat {
	if n < 0 {
		x, n = new(big.Rat).Inv(x), -n
	}
	power := new(big.Rat).SetInt64(1)
	for range n {
		power.Mul(power, x)
	}
	return power
}

func TestPow(t *testing.T) {
	for _, a := range samples(8, 60) {
		x := valueOf(a)
		for n := -6; n <= 6; n++ {
			c, e := Pow(a, n)
			if n < 0 && x.Sign() == 0 {
				expectError(t, "Pow", c, e, api.ErrZero)
			} else {
				expectOK(t, "Pow", c, e, powerOf(x, n))
			}
		}
	}
	for _, n := range []int{63, 64, 65, 1000, api.MaxPower, -api.MaxPower} {
		c, e := Pow(f(t, "-3/2"), n)
		expectOK(t, "Pow of -3/2", c, e, powerOf(rat(t, "-3/2"), n))
	}
}

func TestPowExamples(t *testing.T) {
	for _, c := range []struct {
		a    string
		n    int
		want string
	}{{"-2/3", 3, "-8/27"}, {"2", -2, "1/4"}, {"0", 0, "1"}, {"-5/7", 0, "1"}, {"0", 4096, "0"}, {"-1", 4095, "-1"}, {"-1", -4096, "1"}, {"-1/2", -3, "-8"}, {"2", 100, "1267650600228229401496703205376"}} {
		got, e := Pow(f(t, c.a), c.n)
		expectOK(t, "Pow of "+c.a, got, e, rat(t, c.want))
	}
	for _, n := range []int{-1, -2, -4096} {
		got, e := Pow(api.Frac{Neg: true, D: []uint32{3}}, n)
		expectError(t, "Pow of 0", got, e, api.ErrZero)
	}
	for _, n := range []int{4097, 5000, -4097, math.MaxInt, math.MinInt} {
		for _, a := range []string{"1", "0", "2/3"} {
			got, e := Pow(f(t, a), n)
			expectError(t, "Pow too great", got, e, api.ErrLong)
		}
	}
}

func TestSumAndProduct(t *testing.T) {
	expect(t, "Sum()", Sum(), rat(t, "0"))
	expect(t, "Product()", Product(), rat(t, "1"))
	expect(t, "Sum", Sum(fs(t, "1/2", "1/3", "1/6")...), rat(t, "1"))
	expect(t, "Product", Product(fs(t, "1/2", "2/3")...), rat(t, "1/3"))
	expect(t, "Sum to 0", Sum(fs(t, "1/2", "-1/3", "-1/6")...), rat(t, "0"))
	expect(t, "Sum below 0", Sum(fs(t, "1/2", "-1/3", "-1/3")...), rat(t, "-1/6"))
	expect(t, "Product of three negative numbers", Product(fs(t, "-1/2", "-2/3", "-1")...), rat(t, "-1/3"))
	expect(t, "Product with 0", Product(fs(t, "-1/2", "0", "3")...), rat(t, "0"))
	list := samples(9, 300)
	for n := range len(list) {
		part := list[n:min(n+1+n%9, len(list))]
		sum, product := new(big.Rat), new(big.Rat).SetInt64(1)
		for _, a := range part {
			sum.Add(sum, valueOf(a))
			product.Mul(product, valueOf(a))
		}
		expect(t, "Sum", Sum(part...), sum)
		expect(t, "Product", Product(part...), product)
	}
}

func TestLongSum(t *testing.T) {
	var list []api.Frac
	want := new(big.Rat)
	for i := range 300 {
		r := big.NewRat(int64(1-2*(i%2)), int64(i+1))
		list = append(list, fracOf(r))
		want.Add(want, r)
	}
	expect(t, "Sum of 300", Sum(list...), want)
}

func TestFloor(t *testing.T) {
	for _, c := range []struct {
		a    string
		d    int
		want string
	}{{"5/7", 10, "7/10"}, {"-1/3", 2, "-1/2"}, {"0", 5, "0"}, {"1/2", 4, "1/2"}, {"-1/2", 4, "-1/2"}, {"7/2", 1, "3"}, {"-7/2", 1, "-4"}, {"1/3", math.MaxInt, "3074457345618258602/9223372036854775807"}, {"-1/9223372036854775808", math.MaxInt, "-1/9223372036854775807"}} {
		got, e := Floor(f(t, c.a), c.d)
		expectOK(t, "Floor of "+c.a, got, e, rat(t, c.want))
	}
	for _, d := range []int{0, -1, math.MinInt} {
		got, e := Floor(Of(1), d)
		expectError(t, "Floor", got, e, api.ErrArg)
	}
	for i, a := range samples(10, 1500) {
		d := []int{1, 2, 3, 10, 97, 1 << 20, math.MaxInt}[i%7]
		got, e := Floor(a, d)
		x, scale := valueOf(a), new(big.Rat).SetInt64(int64(d))
		floor := new(big.Rat).SetInt(floorOf(new(big.Rat).Mul(x, scale)))
		expectOK(t, "Floor", got, e, floor.Quo(floor, scale))
		if lost := new(big.Rat).Sub(x, valueOf(got)); lost.Sign() < 0 || lost.Cmp(new(big.Rat).Inv(scale)) >= 0 {
			t.Errorf("Floor of %s by %d loses %s", x, d, lost)
		}
	}
}

func TestSize(t *testing.T) {
	for s, want := range map[string]int{"0": 1, "1": 2, "-1": 2, "1/2": 3, "255": 9, "256": 10, "-7/8": 7, "18446744073709551615": 65, "18446744073709551616": 66, "1/4294967296": 34} {
		if n := Size(f(t, s)); n != want {
			t.Errorf("Size of %s: %d", s, n)
		}
	}
	if n := Size(api.Frac{N: []uint32{4, 0}, D: []uint32{8, 0}}); n != 3 {
		t.Errorf("Size of 4/8: %d", n)
	}
	for _, a := range samples(11, 1000) {
		x := valueOf(a)
		if n := Size(a); n != x.Num().BitLen()+x.Denom().BitLen() {
			t.Errorf("Size of %s: %d", x, n)
		}
	}
}
