package frac

import (
	"math"
	"math/big"
	"math/rand"
	"slices"
	"testing"

	"earshot/api"
)

// bigOf returns the number with digits of 32 bits, computed without this package.
func bigOf(digits []uint32) *big.Int {
	n := new(big.Int)
	for _, digit := range slices.Backward(digits) {
		n.Lsh(n, 32)
		n.Or(n, big.NewInt(int64(digit)))
	}
	return n
}

// valueOf returns the value of a, computed without this package.
func valueOf(a api.Frac) *big.Rat {
	n, d := bigOf(a.N), bigOf(a.D)
	if d.Sign() == 0 {
		d.SetInt64(1)
	}
	if a.Neg {
		n.Neg(n)
	}
	return new(big.Rat).SetFrac(n, d)
}

// isCanonical reports whether a is canonical, computed without this package.
func isCanonical(a api.Frac) bool {
	for _, digits := range [][]uint32{a.N, a.D} {
		if len(digits) > 0 && digits[len(digits)-1] == 0 {
			return false
		}
	}
	if len(a.N) == 0 {
		return len(a.D) == 0 && !a.Neg
	}
	if len(a.D) == 0 {
		return true
	}
	n, d, one := bigOf(a.N), bigOf(a.D), big.NewInt(1)
	return d.Cmp(one) > 0 && new(big.Int).GCD(nil, nil, n, d).Cmp(one) == 0
}

// digitsOf returns the digits of 32 bits of n, which is not negative.
func digitsOf(n *big.Int) []uint32 {
	var digits []uint32
	low := big.NewInt(math.MaxUint32)
	for n = new(big.Int).Set(n); n.Sign() > 0; n.Rsh(n, 32) {
		digits = append(digits, uint32(new(big.Int).And(n, low).Uint64()))
	}
	return digits
}

// fracOf returns the canonical Frac with the value r, computed without this package.
func fracOf(r *big.Rat) api.Frac {
	a := api.Frac{Neg: r.Sign() < 0, N: digitsOf(new(big.Int).Abs(r.Num()))}
	if !r.IsInt() {
		a.D = digitsOf(r.Denom())
	}
	return a
}

// rat reads a number like -2/3 or 1.5, without this package.
func rat(t *testing.T, s string) *big.Rat {
	t.Helper()
	r, ok := new(big.Rat).SetString(s)
	if !ok {
		t.Fatalf("no number: %q", s)
	}
	return r
}

// f reads a number like -2/3 or 1.5, without this package.
func f(t *testing.T, s string) api.Frac {
	t.Helper()
	return fracOf(rat(t, s))
}

// fs reads several numbers.
func fs(t *testing.T, list ...string) []api.Frac {
	t.Helper()
	var l []api.Frac
	for _, s := range list {
		l = append(l, f(t, s))
	}
	return l
}

// expect checks that got is the canonical Frac with the value want.
func expect(t *testing.T, what string, got api.Frac, want *big.Rat) {
	t.Helper()
	if !isCanonical(got) {
		t.Errorf("%s: %v is not canonical", what, got)
	}
	if valueOf(got).Cmp(want) != 0 {
		t.Errorf("%s: %s, not %s", what, valueOf(got).RatString(), want.RatString())
	}
}

// expectOK checks that there is no error, and that got is the canonical Frac with the value want.
func expectOK(t *testing.T, what string, got api.Frac, e api.Errno, want *big.Rat) {
	t.Helper()
	if e != api.OK {
		t.Errorf("%s: error %d", what, e)
		return
	}
	expect(t, what, got, want)
}

// expectError checks that there is this error, with a zero value.
func expectError(t *testing.T, what string, got api.Frac, e, want api.Errno) {
	t.Helper()
	if e != want {
		t.Errorf("%s: error %d, not %d", what, e, want)
	}
	if got.Neg || len(got.N) > 0 || len(got.D) > 0 {
		t.Errorf("%s: %v with an error", what, got)
	}
}

// randomDigits returns up to most digits, in which runs of zeros and ones are frequent.
func randomDigits(r *rand.Rand, most int) []uint32 {
	digits := make([]uint32, r.Intn(most+1))
	for i := range digits {
		switch r.Intn(5) {
		case 0:
			digits[i] = 0
		case 1:
			digits[i] = math.MaxUint32
		case 2:
			digits[i] = 1 << r.Intn(32)
		default:
			digits[i] = r.Uint32()
		}
	}
	return digits
}

// randomFrac returns any Frac, most of them not canonical.
func randomFrac(r *rand.Rand) api.Frac {
	most := 1 + r.Intn(6)
	a := api.Frac{Neg: r.Intn(2) == 0, N: randomDigits(r, most), D: randomDigits(r, most)}
	if r.Intn(2) == 0 { // small numbers meet in common divisors
		a.N, a.D = []uint32{uint32(r.Intn(12))}, []uint32{uint32(r.Intn(12))}
	}
	return a
}

// odd returns Fracs at the edges: 0 in many forms, denominators that stand for 0, common divisors, digits that do not matter, numbers of many digits.
func odd() []api.Frac {
	long := slices.Repeat([]uint32{math.MaxUint32}, 90)
	return []api.Frac{
		{}, {Neg: true}, {N: []uint32{0}}, {Neg: true, N: []uint32{0, 0}, D: []uint32{5}}, {D: []uint32{7}}, {D: []uint32{0}},
		{N: []uint32{5}, D: []uint32{0}}, {Neg: true, N: []uint32{5}, D: []uint32{0, 0}}, {N: []uint32{5}, D: []uint32{}},
		{N: []uint32{1}}, {Neg: true, N: []uint32{1}}, {N: []uint32{1}, D: []uint32{1}}, {N: []uint32{9, 0}, D: []uint32{9, 0, 0}},
		{N: []uint32{4}, D: []uint32{6}}, {Neg: true, N: []uint32{4, 0}, D: []uint32{6}}, {N: []uint32{0, 1}, D: []uint32{0, 1}},
		{N: []uint32{0, 4}, D: []uint32{0, 0, 6}}, {N: []uint32{math.MaxUint32, math.MaxUint32}}, {Neg: true, N: []uint32{0, 1 << 31}},
		{N: long, D: []uint32{3}}, {N: []uint32{3}, D: long}, {Neg: true, N: long, D: long[:60]}, {N: slices.Clone(long), D: long},
	}
}

// samples returns the Fracs at the edges, and random ones.
func samples(seed int64, n int) []api.Frac {
	r, list := rand.New(rand.NewSource(seed)), odd()
	for range n {
		list = append(list, randomFrac(r))
	}
	return list
}
