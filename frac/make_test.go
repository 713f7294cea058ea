// Tests of P1.2 (Of, Make, Whole).

package frac

import (
	"math"
	"math/big"
	"testing"

	"earshot/api"
)

// edgeInts returns ints at the edges.
func edgeInts() []int {
	return []int{0, 1, -1, 2, -2, 5, 6, -4, -7, 10, 4095, 4096, 4097, -4096, -4097, math.MaxInt32, math.MinInt32, math.MaxUint32, math.MaxUint32 + 1, math.MaxInt, math.MaxInt - 1, math.MinInt, math.MinInt + 1}
}

func TestOf(t *testing.T) {
	for _, n := range edgeInts() {
		expect(t, "Of", Of(n), new(big.Rat).SetInt64(int64(n)))
	}
}

func TestMake(t *testing.T) {
	for _, n := range edgeInts() {
		for _, d := range edgeInts() {
			a, e := Make(n, d)
			if d == 0 {
				expectError(t, "Make", a, e, api.ErrZero)
				continue
			}
			expectOK(t, "Make", a, e, new(big.Rat).SetFrac(big.NewInt(int64(n)), big.NewInt(int64(d))))
		}
	}
}

func TestMakeExamples(t *testing.T) {
	a, e := Make(6, -4)
	expectOK(t, "Make(6, -4)", a, e, rat(t, "-3/2"))
	a, e = Make(0, 5)
	expectOK(t, "Make(0, 5)", a, e, rat(t, "0"))
	a, e = Make(math.MinInt, math.MinInt)
	expectOK(t, "Make of the least ints", a, e, rat(t, "1"))
	a, e = Make(1, math.MinInt)
	expectOK(t, "Make(1, least int)", a, e, rat(t, "-1/9223372036854775808"))
}

func TestWhole(t *testing.T) {
	for s, want := range map[string]int{
		"0": 0, "1/2": 0, "-1/2": -1, "7/2": 3, "-7/2": -4, "4": 4, "-4": -4, "-1/1000000000000000000000": -1, "999999999999/1000000000000": 0,
		"9223372036854775807": math.MaxInt, "-9223372036854775808": math.MinInt, "18446744073709551615/2": math.MaxInt, "-18446744073709551615/2": math.MinInt,
	} {
		if n, e := Whole(f(t, s)); e != api.OK || n != want {
			t.Errorf("Whole of %s: %d, %d", s, n, e)
		}
	}
	for _, s := range []string{
		"9223372036854775808", "-9223372036854775809", "-18446744073709551617/2", "18446744073709551616", "-18446744073709551616",
		"18446744073709551615", "36893488147419103233", "340282366920938463463374607431768211456", "-340282366920938463463374607431768211457/2",
	} {
		if n, e := Whole(f(t, s)); e != api.ErrBig || n != 0 {
			t.Errorf("Whole of %s: %d, %d", s, n, e)
		}
	}
}

// floorOf returns the greatest integer that is not greater than r, computed without this package.
func floorOf(r *big.Rat) *big.Int {
	return new(big.Int).Div(r.Num(), r.Denom()) // Div rounds down for positive divisors
}

func TestWholeOfAny(t *testing.T) {
	for _, a := range samples(5, 3000) {
		n, e := Whole(a)
		floor := floorOf(valueOf(a))
		if floor.IsInt64() && (e != api.OK || int64(n) != floor.Int64()) || !floor.IsInt64() && (e != api.ErrBig || n != 0) {
			t.Errorf("Whole of %s: %d, %d", valueOf(a), n, e)
		}
	}
	for _, n := range edgeInts() {
		if m, e := Whole(Of(n)); e != api.OK || m != n {
			t.Errorf("Whole of Of(%d): %d, %d", n, m, e)
		}
	}
}
