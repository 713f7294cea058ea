// Tests of P1.4 (Sign, Cmp, Best).

package frac

import (
	"math/rand"
	"testing"

	"earshot/api"
)

func TestSignAndCmp(t *testing.T) {
	list := samples(12, 150)
	for _, a := range list {
		x := valueOf(a)
		if Sign(a) != x.Sign() {
			t.Errorf("Sign of %s: %d", x, Sign(a))
		}
		for _, b := range list {
			if y := valueOf(b); Cmp(a, b) != x.Cmp(y) {
				t.Errorf("Cmp of %s and %s: %d", x, y, Cmp(a, b))
			}
		}
	}
}

func TestOrderExamples(t *testing.T) {
	for _, c := range []struct {
		a, b string
		want int
	}{{"1/3", "2/6", 0}, {"-1", "1/9", -1}, {"1/9", "-1", 1}, {"10/3", "3", 1}, {"-10/3", "-3", -1}, {"0", "1/9", -1}, {"0", "-1/9", 1}, {"1/9", "0", 1}, {"-1/9", "0", -1}, {"0", "0", 0}, {"-2", "-3", 1}} {
		if got := Cmp(f(t, c.a), f(t, c.b)); got != c.want {
			t.Errorf("Cmp of %s and %s: %d", c.a, c.b, got)
		}
	}
	if Cmp(api.Frac{N: []uint32{1}, D: []uint32{3}}, api.Frac{N: []uint32{2, 0}, D: []uint32{6}}) != 0 {
		t.Error("1/3 and 2/6")
	}
	if Sign(api.Frac{Neg: true}) != 0 || Sign(api.Frac{Neg: true, N: []uint32{0, 0}}) != 0 || Sign(f(t, "-1/9")) != -1 || Sign(f(t, "1/9")) != 1 {
		t.Error("Sign")
	}
}

// TestOrderAgrees checks that Cmp is a total order that agrees with sums, and with products by positive numbers.
func TestOrderAgrees(t *testing.T) {
	list := samples(13, 14)
	for _, a := range list {
		for _, b := range list {
			order := Cmp(a, b)
			if Cmp(b, a) != -order || Sign(Sub(a, b)) != order {
				t.Errorf("%v and %v", a, b)
			}
			for _, c := range list {
				if Cmp(Add(a, c), Add(b, c)) != order {
					t.Errorf("sums of %v and %v with %v", a, b, c)
				}
				if Sign(c) > 0 && Cmp(Mul(a, c), Mul(b, c)) != order {
					t.Errorf("products of %v and %v with %v", a, b, c)
				}
				if order <= 0 && Cmp(b, c) <= 0 && Cmp(a, c) > 0 {
					t.Errorf("%v, %v, %v are not in order", a, b, c)
				}
			}
		}
	}
}

func TestBest(t *testing.T) {
	for _, c := range []struct {
		list []string
		want int
	}{{nil, -1}, {[]string{"0"}, 0}, {[]string{"1/2", "2/3", "4/6"}, 1}, {[]string{"-1", "-1/2", "-2"}, 1}, {[]string{"3", "3", "3"}, 0}, {[]string{"1", "2", "3"}, 2}, {[]string{"3", "2", "1"}, 0}, {[]string{"-1", "0", "-1"}, 1}} {
		if got := Best(fs(t, c.list...)...); got != c.want {
			t.Errorf("Best of %v: %d", c.list, got)
		}
	}
	if got := Best([]api.Frac{}...); got != -1 {
		t.Errorf("Best of an empty list: %d", got)
	}
	if got := Best(api.Frac{N: []uint32{1}, D: []uint32{2}}, api.Frac{N: []uint32{4}, D: []uint32{6}}, api.Frac{N: []uint32{2}, D: []uint32{3}}); got != 1 {
		t.Errorf("Best of equal values: %d", got)
	}
	r := rand.New(rand.NewSource(14))
	for range 500 {
		var list []api.Frac
		for range 1 + r.Intn(8) {
			list = append(list, randomFrac(r))
		}
		want := 0
		for i, a := range list {
			if valueOf(a).Cmp(valueOf(list[want])) > 0 {
				want = i
			}
		}
		if got := Best(list...); got != want {
			t.Errorf("Best of %v: %d, not %d", list, got, want)
		}
	}
}
