// Tests of P0.1 and the rules R1 to R8.

package frac

import (
	"math/rand"
	"slices"
	"strings"
	"testing"

	"earshot/api"
)

// copyOf returns a copy of a that shares no memory with it.
func copyOf(a api.Frac) api.Frac {
	return api.Frac{Neg: a.Neg, N: slices.Clone(a.N), D: slices.Clone(a.D)}
}

// spoil overwrites all memory of a Frac, up to its capacity.
func spoil(a api.Frac) {
	for _, digits := range [][]uint32{a.N, a.D} {
		digits = digits[:cap(digits)]
		for i := range digits {
			digits[i] = 0xdeadbeef
		}
	}
}

// TestArgumentsStay checks that no function changes its arguments (rule R4).
func TestArgumentsStay(t *testing.T) {
	list := samples(18, 60)
	for _, a := range list {
		for _, b := range list {
			x, y := copyOf(a), copyOf(b)
			operations(x, y)
			Canonical(x)
			Cmp(x, y)
			Best(x, y)
			Sign(x)
			Whole(x)
			Size(x)
			Distribution([]api.Frac{x, y})
			Decimal(x, 5)
			if !same(x, a) || !same(y, b) {
				t.Fatalf("%v or %v has changed", a, b)
			}
		}
	}
}

// TestMemoryIsNew checks that results share no memory with arguments, nor with each other (rule R4).
func TestMemoryIsNew(t *testing.T) {
	list := samples(19, 60)
	for _, a := range list {
		for _, b := range list {
			x, y := copyOf(a), copyOf(b)
			results := operations(x, y)
			var want []api.Frac
			for _, c := range results {
				want = append(want, copyOf(c))
			}
			spoil(x)
			spoil(y)
			for i, c := range results {
				if !same(c, want[i]) {
					t.Fatalf("result %d of %v and %v shares memory", i, a, b)
				}
				digits := c.N[:cap(c.N)]
				for j := range digits {
					digits[j] = 0xdeadbeef
				}
				if !slices.Equal(c.D, want[i].D) {
					t.Fatalf("result %d of %v and %v shares memory with itself", i, a, b)
				}
				spoil(c)
			}
		}
	}
}

// TestNoMemoryOfCalls checks that equal calls have equal results (rule R8), also if an earlier result was overwritten.
func TestNoMemoryOfCalls(t *testing.T) {
	for _, a := range samples(20, 100) {
		first := operations(a, Of(3))
		var want []api.Frac
		for _, c := range first {
			want = append(want, copyOf(c))
			spoil(c)
		}
		for i, c := range operations(a, Of(3)) {
			if !same(c, want[i]) {
				t.Fatalf("result %d of %v", i, a)
			}
		}
	}
}

// TestNilAndEmpty checks that nil and empty lists are the same value (rule R3).
func TestNilAndEmpty(t *testing.T) {
	empty := api.Frac{N: []uint32{}, D: []uint32{}}
	if !Canonical(empty) || Sign(empty) != 0 || Cmp(empty, api.Frac{}) != 0 || Text(empty) != "0" {
		t.Error("an empty Frac is 0")
	}
	expect(t, "Sum of an empty list", Sum([]api.Frac{}...), rat(t, "0"))
	expect(t, "Product of an empty list", Product([]api.Frac{}...), rat(t, "1"))
}

// TestAnyArguments checks that functions return for all arguments, with canonical results, and with zero values beside errors (P0.1, rules R2 and R5).
func TestAnyArguments(t *testing.T) {
	check := func(a api.Frac, e api.Errno) {
		t.Helper()
		if !isCanonical(a) || e != api.OK && !same(a, api.Frac{}) {
			t.Errorf("%v with error %d", a, e)
		}
	}
	for _, a := range odd() {
		for _, n := range edgeInts() {
			check(Floor(a, n))
			if n >= -10 && n <= 10 || n > api.MaxPower || n < -api.MaxPower { // the other powers only take long to check
				check(Pow(a, n))
			}
			if s, e := Decimal(a, n); (e == api.OK) != (n >= 0 && n <= api.MaxPlaces) || e != api.OK && s != "" {
				t.Errorf("Decimal of %v with %d places: %s, %d", a, n, s, e)
			}
		}
	}
	r := rand.New(rand.NewSource(24))
	signs := []string{"-", "/", ".", "0", "1", "9", "00000000000000000000", "12345678901234567890", " ", "x", "\xff", "é"}
	for range 5000 {
		var s strings.Builder
		for range r.Intn(6) {
			s.WriteString(signs[r.Intn(len(signs))])
		}
		check(Parse(s.String()))
	}
}

// TestOrderOfErrors checks that of several errors the first one in the order of the section is returned (rule R1).
func TestOrderOfErrors(t *testing.T) {
	for _, n := range []int{-5000, -4097} {
		if _, e := Pow(api.Frac{}, n); e != api.ErrLong {
			t.Errorf("Pow of 0: %d", e)
		}
	}
	if _, e := Normalize([]api.Frac{Of(-1), Of(1)}); e != api.ErrArg {
		t.Errorf("Normalize: %d", e)
	}
	if _, e := Parse(strings.Repeat("x", api.MaxDigits+1)); e != api.ErrLong {
		t.Errorf("Parse: %d", e)
	}
	if _, e := Parse("1/0x"); e != api.ErrText {
		t.Errorf("Parse: %d", e)
	}
}
