// Tests of P1.1 (Canonical, Canon).

package frac

import (
	"math/big"
	"slices"
	"testing"

	"earshot/api"
)

func TestCanonical(t *testing.T) {
	for _, a := range []api.Frac{
		{}, {N: []uint32{}, D: []uint32{}}, {N: []uint32{1}}, {Neg: true, N: []uint32{1}}, {N: []uint32{5}, D: []uint32{}},
		{N: []uint32{2}, D: []uint32{3}}, {Neg: true, N: []uint32{3}, D: []uint32{2}}, {N: []uint32{0, 1}, D: []uint32{3}}, {N: []uint32{3}, D: []uint32{0, 1}},
		{N: []uint32{1, 1}, D: []uint32{0, 0, 1}},
	} {
		if !Canonical(a) {
			t.Errorf("%v is canonical", a)
		}
	}
	for _, a := range []api.Frac{
		{Neg: true}, {N: []uint32{0}}, {D: []uint32{0}}, {D: []uint32{1}}, {D: []uint32{7}}, {N: []uint32{1, 0}}, {N: []uint32{1}, D: []uint32{0}},
		{N: []uint32{4}, D: []uint32{1}}, {N: []uint32{4}, D: []uint32{6}}, {N: []uint32{2}, D: []uint32{3, 0}}, {N: []uint32{0, 2}, D: []uint32{0, 3}},
		{N: []uint32{7}, D: []uint32{7}}, {N: []uint32{2, 0}, D: []uint32{3}},
	} {
		if Canonical(a) {
			t.Errorf("%v is not canonical", a)
		}
	}
	for _, a := range samples(1, 3000) {
		if Canonical(a) != isCanonical(a) {
			t.Errorf("Canonical of %v: %t", a, Canonical(a))
		}
	}
}

func TestCanon(t *testing.T) {
	for _, a := range samples(2, 3000) {
		got := Canon(a)
		expect(t, "Canon", got, valueOf(a))
		if !Canonical(got) {
			t.Errorf("Canon of %v is not Canonical", a)
		}
	}
}

// TestCanonIsUnique checks that equal values have the same digits.
func TestCanonIsUnique(t *testing.T) {
	want := api.Frac{Neg: true, N: []uint32{2}, D: []uint32{3}}
	for _, a := range []api.Frac{
		want, {Neg: true, N: []uint32{4, 0}, D: []uint32{6, 0, 0}}, {Neg: true, N: []uint32{0, 0, 2}, D: []uint32{0, 0, 3}},
		{Neg: true, N: digitsOf(new(big.Int).Mul(big.NewInt(2), bigOf(odd()[20].D))), D: digitsOf(new(big.Int).Mul(big.NewInt(3), bigOf(odd()[20].D)))},
	} {
		got := Canon(a)
		if got.Neg != want.Neg || !slices.Equal(got.N, want.N) || !slices.Equal(got.D, want.D) {
			t.Errorf("%v", got)
		}
	}
}

// operations returns every result of the type Frac that this layer makes of two Fracs.
func operations(a, b api.Frac) []api.Frac {
	list := []api.Frac{Canon(a), Add(a, b), Sub(a, b), Mul(a, b), Neg(a), Sum(a, b, a), Product(a, b, a)}
	add := func(c api.Frac, _ api.Errno) { list = append(list, c) }
	add(Div(a, b))
	add(Pow(a, 3))
	add(Pow(a, -2))
	add(Floor(a, 10))
	add(Parse(Text(a)))
	parts, _ := Normalize([]api.Frac{a, b})
	return append(list, parts...)
}

// TestResultsAreCanonical covers all results, whatever the arguments are.
func TestResultsAreCanonical(t *testing.T) {
	list := samples(3, 60)
	for _, a := range list {
		for _, b := range list {
			for i, c := range operations(a, b) {
				if !isCanonical(c) {
					t.Fatalf("result %d of %v and %v is %v", i, a, b, c)
				}
			}
		}
	}
}

// TestValuesDecide checks that results depend on the values of Fracs only.
func TestValuesDecide(t *testing.T) {
	list := samples(4, 60)
	for _, a := range list {
		for _, b := range list {
			x, y := operations(a, b), operations(fracOf(valueOf(a)), fracOf(valueOf(b)))
			if len(x) != len(y) {
				t.Fatalf("%v and %v: %d and %d results", a, b, len(x), len(y))
			}
			for i := range x {
				if valueOf(x[i]).Cmp(valueOf(y[i])) != 0 {
					t.Fatalf("result %d of %v and %v", i, a, b)
				}
			}
		}
	}
}
