package whole_test

import (
	"math"
	"math/big"
	"testing"

	"earshot/whole"
)

func TestWithin(t *testing.T) {
	for _, c := range []struct {
		n, least, greatest int
		want               bool
	}{
		{0, 0, 0, true}, {1, 0, 0, false}, {-1, 0, 0, false}, {2, -3, 2, true}, {-3, -3, 2, true}, {3, -3, 2, false}, {-4, -3, 2, false},
		{0, 1, -1, false}, {math.MinInt, math.MinInt, math.MaxInt, true}, {math.MaxInt, math.MinInt, math.MaxInt, true}, {math.MinInt, -1, 1, false}, {math.MaxInt, -1, 1, false},
	} {
		if got := whole.Within(c.n, c.least, c.greatest); got != c.want {
			t.Errorf("%d from %d to %d: %t", c.n, c.least, c.greatest, got)
		}
	}
}

func TestAllWithin(t *testing.T) {
	for _, c := range []struct {
		x    []int
		want bool
	}{
		{nil, true}, {[]int{}, true}, {[]int{-3, 0, 2}, true}, {[]int{-4, 0, 2}, false}, {[]int{-3, 3, 2}, false}, {[]int{-3, 0, 3}, false},
	} {
		if got := whole.AllWithin(c.x, -3, 2); got != c.want {
			t.Errorf("%v: %t", c.x, got)
		}
	}
}

// rounded returns a / b with rounding, computed with rational numbers.
func rounded(a, b int) int {
	n := big.NewRat(int64(a), int64(b))
	half := big.NewRat(int64(n.Sign()), 2)
	n.Add(n, half)
	return int(new(big.Int).Quo(n.Num(), n.Denom()).Int64())
}

func TestDivide(t *testing.T) {
	for _, c := range [][3]int{{0, 1, 0}, {1, 2, 1}, {-1, 2, -1}, {1, 3, 0}, {-1, 3, 0}, {2, 3, 1}, {-2, 3, -1}, {3, 2, 2}, {-3, 2, -2}, {1 << 61, 1 << 34, 1 << 27}, {-1 << 61, 3, -768614336404564651}} {
		if got := whole.Divide(c[0], c[1]); got != c[2] {
			t.Errorf("%d by %d is %d, not %d", c[0], c[1], got, c[2])
		}
	}
	for a := -50; a <= 50; a++ {
		for b := 1; b <= 12; b++ {
			if got, want := whole.Divide(a, b), rounded(a, b); got != want {
				t.Errorf("%d by %d is %d, not %d", a, b, got, want)
			}
		}
	}
}

func TestDivideUp(t *testing.T) {
	for a := 0; a <= 50; a++ {
		for b := 1; b <= 12; b++ {
			n := whole.DivideUp(a, b)
			if n*b < a || (n-1)*b >= a {
				t.Errorf("%d by %d is %d", a, b, n)
			}
		}
	}
}
