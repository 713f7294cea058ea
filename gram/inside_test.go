package gram

import (
	"math/big"
	"math/rand"
	"testing"

	"earshot/api"
	"earshot/frac"
)

// valueOf returns the value of a canonical number, computed without the program.
func valueOf(a api.Frac) *big.Rat {
	value := func(digits []uint32) *big.Int {
		n := new(big.Int)
		for i := len(digits) - 1; i >= 0; i-- {
			n.Lsh(n, 32).Or(n, big.NewInt(int64(digits[i])))
		}
		return n
	}
	n, d := value(a.N), value(a.D)
	if len(a.D) == 0 {
		d.SetInt64(1)
	}
	return new(big.Rat).SetFrac(n, d)
}

// orderOf compares a to the power m with b to the power n.
func orderOf(a api.Frac, n int, b api.Frac, m int) int {
	raised := func(a api.Frac, n int) *big.Rat {
		x, e := valueOf(a), big.NewInt(int64(n))
		return new(big.Rat).SetFrac(new(big.Int).Exp(x.Num(), e, nil), new(big.Int).Exp(x.Denom(), e, nil))
	}
	return raised(a, m).Cmp(raised(b, n))
}

// randomNumber returns a positive number with at most so many digits above and below.
func randomNumber(r *rand.Rand, most int) api.Frac {
	digits := func() []uint32 {
		list := make([]uint32, 1+r.Intn(most))
		for i := range list {
			list[i] = r.Uint32() >> (r.Intn(2) * r.Intn(32))
			if r.Intn(6) == 0 {
				list[i] = ^uint32(0) // sums that carry far
			}
		}
		list[0] |= 1
		return list
	}
	return frac.Canon(api.Frac{N: digits(), D: digits()})
}

// coprime returns two numbers from 1 on without a common divisor.
func coprime(r *rand.Rand, most int) (int, int) {
	n, m := 1+r.Intn(most), 1+r.Intn(most)
	common := divisor(n, m)
	return n / common, m / common
}

// nudged returns a with a numerator that is greater or less by 1.
func nudged(r *rand.Rand, a api.Frac) api.Frac {
	d := api.Frac{N: a.D}
	if len(a.D) == 0 {
		d = frac.Of(1)
	}
	step, _ := frac.Div(frac.Of(1-2*r.Intn(2)), d)
	return frac.Add(a, step)
}

// expectComparison checks that comparisons are right, or open where they may be.
func expectComparison(t *testing.T, a api.Frac, n int, b api.Frac, m int) {
	t.Helper()
	want := orderOf(a, n, b, m)
	for keep := 2; keep <= 64; keep *= 2 {
		if got := compareRoughly(a, n, b, m, keep); got != 0 && got != want {
			t.Fatalf("%v to the power %d and %v to the power %d, with %d digits: %d, not %d", a, m, b, n, keep, got, want)
		}
	}
	if got := compareExactly(a, n, b, m); got != want {
		t.Fatalf("%v to the power %d and %v to the power %d: %d, not %d", a, m, b, n, got, want)
	}
	if got := compareMeans(a, 2*n, b, 2*m); got != want {
		t.Fatalf("%v to the power %d and %v to the power %d: %d, not %d", a, 2*m, b, 2*n, got, want)
	}
}

// TestComparisons compares with the powers themselves: of any numbers, of numbers with equal means, and of numbers with nearly equal ones.
func TestComparisons(t *testing.T) {
	r := rand.New(rand.NewSource(15))
	for range 1500 {
		n, m := coprime(r, 12)
		expectComparison(t, randomNumber(r, 5), n, randomNumber(r, 5), m)
		mean := randomNumber(r, 2)
		a, _ := frac.Pow(mean, n)
		b, _ := frac.Pow(mean, m)
		expectComparison(t, a, n, b, m)
		a = nudged(r, a)
		if frac.Sign(a) > 0 {
			expectComparison(t, a, n, b, m)
			expectComparison(t, b, m, a, n)
		}
	}
}

// TestRoughTells checks that enough digits tell numbers apart, and that equal ones are never told apart.
func TestRoughTells(t *testing.T) {
	near, _ := frac.Parse("1000000000000000000000000000001/3000000000000000000000000000000")
	third, _ := frac.Parse("1/3")
	for _, c := range []struct{ keep, want int }{{2, 0}, {3, 0}, {5, 1}, {100, 1}} {
		if got := compareRoughly(near, 499, third, 499, c.keep); got != c.want {
			t.Errorf("with %d digits: %d", c.keep, got)
		}
		if got := compareRoughly(third, 499, near, 499, c.keep); got != -c.want {
			t.Errorf("with %d digits: %d", c.keep, got)
		}
		if got := compareRoughly(near, 499, near, 499, c.keep); got != 0 {
			t.Errorf("equal, with %d digits: %d", c.keep, got)
		}
	}
}

func TestDivisor(t *testing.T) {
	for _, c := range [][3]int{{1, 1, 1}, {1, 9, 1}, {9, 1, 1}, {12, 18, 6}, {18, 12, 6}, {501, 501, 501}, {501, 500, 1}, {234, 377, 13}} {
		if got := divisor(c[0], c[1]); got != c[2] {
			t.Errorf("%d and %d: %d", c[0], c[1], got)
		}
	}
}

// TestTooOften checks a table with more of one n-gram than there may be, which would take long to count.
func TestTooOften(t *testing.T) {
	for n, want := range map[int]api.Errno{mostSeen: api.OK, mostSeen + 1: api.ErrArg} {
		seen := tally{keyOf([]int{1}): n, keyOf([]int{0}): 1}
		if got, e := seen.table(1, 1); e != want || (e == api.OK) != (len(got.List) == 2) {
			t.Errorf("%d: %v and error %d", n, got, e)
		}
	}
}

// TestGramsStop checks that n-grams are offered only as long as they are asked for.
func TestGramsStop(t *testing.T) {
	seen := 0
	for gram := range grams(2, []int{3, 4, 5}) {
		seen++
		if gram[1] == 4 {
			break
		}
	}
	if seen != 2 {
		t.Errorf("%d n-grams", seen)
	}
}
