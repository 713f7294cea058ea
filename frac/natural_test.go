package frac

import (
	"math"
	"math/big"
	"math/rand"
	"slices"
	"testing"
)

// bigNatural returns a as a big.Int.
func bigNatural(a natural) *big.Int {
	n := new(big.Int)
	for _, digit := range slices.Backward(a) {
		n.Lsh(n, 64)
		n.Or(n, new(big.Int).SetUint64(digit))
	}
	return n
}

// expectNatural checks that a has the value want, and no digit 0 at its end.
func expectNatural(t *testing.T, what string, a natural, want *big.Int) {
	t.Helper()
	if bigNatural(a).Cmp(want) != 0 {
		t.Errorf("%s: %s, not %s", what, bigNatural(a), want)
	}
	if len(a) > 0 && a[len(a)-1] == 0 {
		t.Errorf("%s: a digit 0 at the end", what)
	}
}

// randomNatural returns a number of up to most digits, many of them at the edges.
func randomNatural(r *rand.Rand, most int) natural {
	a := make(natural, r.Intn(most+1))
	edges := []uint64{0, 0, 1, 2, 1<<63 - 1, 1 << 63, 1<<63 + 1, math.MaxUint64 - 1, math.MaxUint64, math.MaxUint64}
	random := r.Intn(2) == 0
	for i := range a {
		if a[i] = edges[r.Intn(len(edges))]; random {
			a[i] = r.Uint64() >> r.Intn(64)
		}
	}
	return a.trim()
}

func TestNaturals(t *testing.T) {
	r := rand.New(rand.NewSource(21))
	for range 20000 {
		a, b := randomNatural(r, 9), randomNatural(r, 6)
		x, y := bigNatural(a), bigNatural(b)
		if a.cmp(b) != x.Cmp(y) {
			t.Errorf("cmp of %s and %s", x, y)
		}
		if a.size() != x.BitLen() {
			t.Errorf("size of %s", x)
		}
		expectNatural(t, "add", a.add(b), new(big.Int).Add(x, y))
		expectNatural(t, "mul", a.mul(b), new(big.Int).Mul(x, y))
		expectNatural(t, "gcd", a.gcd(b), new(big.Int).GCD(nil, nil, x, y))
		if a.text() != x.String() {
			t.Errorf("text of %s: %s", x, a.text())
		}
		if a.cmp(b) >= 0 {
			expectNatural(t, "sub", a.sub(b), new(big.Int).Sub(x, y))
		}
		if len(b) > 0 {
			quotient, rest := a.divide(b)
			wantQuotient, wantRest := new(big.Int).QuoRem(x, y, new(big.Int))
			expectNatural(t, "quotient", quotient, wantQuotient)
			expectNatural(t, "remainder", rest, wantRest)
		}
		if bigNatural(a).Cmp(x) != 0 || bigNatural(b).Cmp(y) != 0 {
			t.Fatal("an operation changed its numbers")
		}
	}
}

// TestCorrections checks a quotient whose guessed digit is too great by 2.
func TestCorrections(t *testing.T) {
	a, b := natural{0, 0, 1<<63 - 1}, natural{math.MaxUint64, 1 << 63}
	quotient, rest := a.divide(b)
	digit := guessDigit(natural{0, 0, 1<<63 - 1}, b)
	if len(quotient) != 1 || digit-quotient[0] != 2 {
		t.Errorf("quotient %d, guessed %d", quotient, digit)
	}
	wantQuotient, wantRest := new(big.Int).QuoRem(bigNatural(a), bigNatural(b), new(big.Int))
	expectNatural(t, "quotient", quotient, wantQuotient)
	expectNatural(t, "remainder", rest, wantRest)
}

// TestDivideExactly checks quotients and remainders at their bounds, where guessed digits have to be corrected.
func TestDivideExactly(t *testing.T) {
	r := rand.New(rand.NewSource(22))
	for range 20000 {
		b, q := randomNatural(r, 5), randomNatural(r, 5)
		if len(b) == 0 {
			continue
		}
		least := q.mul(b)
		for _, rest := range []natural{nil, b.sub(one())} {
			gotQuotient, gotRest := least.add(rest).divide(b)
			expectNatural(t, "quotient", gotQuotient, bigNatural(q))
			expectNatural(t, "remainder", gotRest, bigNatural(rest))
		}
	}
}

func TestLongNaturals(t *testing.T) {
	r := rand.New(rand.NewSource(23))
	for range 150 {
		a, b, c := randomNatural(r, 400), randomNatural(r, 300), randomNatural(r, 60)
		x, y, z := bigNatural(a), bigNatural(b), bigNatural(c)
		expectNatural(t, "mul", a.mul(b), new(big.Int).Mul(x, y))
		expectNatural(t, "mul of lengths that differ", c.mul(a), new(big.Int).Mul(z, x))
		if len(c) == 0 {
			continue
		}
		ac, bc := a.mul(c), b.mul(c)
		expectNatural(t, "gcd", ac.gcd(bc), new(big.Int).GCD(nil, nil, bigNatural(ac), bigNatural(bc)))
		quotient, rest := a.divide(c)
		wantQuotient, wantRest := new(big.Int).QuoRem(x, z, new(big.Int))
		expectNatural(t, "quotient", quotient, wantQuotient)
		expectNatural(t, "remainder", rest, wantRest)
		if len(a) > 0 {
			expectNatural(t, "lcm", a.lcm(c), new(big.Int).Div(new(big.Int).Mul(x, z), new(big.Int).GCD(nil, nil, x, z)))
		}
	}
}

// TestGCDOfFibonacci checks numbers for which Euclid's algorithm has the most steps.
func TestGCDOfFibonacci(t *testing.T) {
	a, b := one(), one()
	for range 3000 {
		a, b = b, a.add(b)
		if !b.gcd(a).isOne() {
			t.Fatalf("gcd of %s and %s", b.text(), a.text())
		}
	}
}
