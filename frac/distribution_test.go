// Tests of P1.7 (Distribution, Normalize).

package frac

import (
	"math/big"
	"math/rand"
	"testing"

	"earshot/api"
)

func TestDistribution(t *testing.T) {
	for _, list := range [][]string{{"1"}, {"1/2", "1/3", "1/6"}, {"0", "1", "0"}, {"1/3", "1/3", "1/3"}} {
		if !Distribution(fs(t, list...)) {
			t.Errorf("%v is a distribution", list)
		}
	}
	for _, list := range [][]string{nil, {"0"}, {"0", "0"}, {"2", "-1"}, {"-1"}, {"1/2"}, {"1/2", "1/2", "1/1000000000000000000000"}, {"1/3", "1/3"}, {"2"}, {"3/2", "-1/2"}} {
		if Distribution(fs(t, list...)) {
			t.Errorf("%v is no distribution", list)
		}
	}
	if Distribution([]api.Frac{}) {
		t.Error("an empty list is no distribution")
	}
	if !Distribution([]api.Frac{{N: []uint32{2, 0}, D: []uint32{4}}, {N: []uint32{3}, D: []uint32{6, 0}}, {Neg: true, D: []uint32{5}}}) {
		t.Error("2/4, 3/6 and 0 are a distribution")
	}
}

func TestNormalize(t *testing.T) {
	got, e := Normalize(fs(t, "1", "3"))
	if e != api.OK || len(got) != 2 {
		t.Fatalf("%v, %d", got, e)
	}
	expect(t, "the first part", got[0], rat(t, "1/4"))
	expect(t, "the second part", got[1], rat(t, "3/4"))
	for _, c := range []struct {
		list []string
		want api.Errno
	}{{nil, api.ErrZero}, {[]string{"0"}, api.ErrZero}, {[]string{"0", "0"}, api.ErrZero}, {[]string{"1", "-1"}, api.ErrArg}, {[]string{"-1", "0"}, api.ErrArg}, {[]string{"5", "-1"}, api.ErrArg}, {[]string{"-1", "1", "0"}, api.ErrArg}} {
		if got, e := Normalize(fs(t, c.list...)); e != c.want || len(got) > 0 {
			t.Errorf("Normalize of %v: %v, %d", c.list, got, e)
		}
	}
	if got, e := Normalize([]api.Frac{}); e != api.ErrZero || len(got) > 0 {
		t.Errorf("Normalize of an empty list: %v, %d", got, e)
	}
	if got, e := Normalize([]api.Frac{{Neg: true, N: []uint32{0}}, {D: []uint32{3}}}); e != api.ErrZero || len(got) > 0 {
		t.Errorf("Normalize of zeros that are not canonical: %v, %d", got, e)
	}
}

// TestNormalizeKeepsProportions checks that the result is a distribution, and each part its number by the sum.
func TestNormalizeKeepsProportions(t *testing.T) {
	r := rand.New(rand.NewSource(15))
	for range 400 {
		var list []api.Frac
		sum := new(big.Rat)
		for range r.Intn(7) {
			a := randomFrac(r)
			a.Neg = false
			list = append(list, a)
			sum.Add(sum, valueOf(a))
		}
		got, e := Normalize(list)
		if sum.Sign() == 0 {
			if e != api.ErrZero || len(got) > 0 {
				t.Errorf("Normalize of zeros: %v, %d", got, e)
			}
			continue
		}
		if e != api.OK || len(got) != len(list) || !Distribution(got) {
			t.Fatalf("Normalize of %v: %v, %d", list, got, e)
		}
		for i, a := range list {
			expect(t, "Normalize", got[i], new(big.Rat).Quo(valueOf(a), sum))
		}
	}
}
