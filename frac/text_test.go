// Tests of P1.8 (Text, Decimal, Parse).

package frac

import (
	"math"
	"math/big"
	"strings"
	"testing"

	"earshot/api"
)

func TestText(t *testing.T) {
	for s, want := range map[string]string{"0": "0", "-7": "-7", "-3/2": "-3/2", "4/6": "2/3", "10000000000000000000": "10000000000000000000", "10000000000000000000000000000000000000000/3": "10000000000000000000000000000000000000000/3", "1/10000000000000000001": "1/10000000000000000001"} {
		if got := Text(f(t, s)); got != want {
			t.Errorf("Text of %s: %s", s, got)
		}
	}
	if got := Text(api.Frac{Neg: true, N: []uint32{0, 0}, D: []uint32{9}}); got != "0" {
		t.Errorf("Text of -0/9: %s", got)
	}
	for _, a := range samples(16, 2000) {
		got := Text(a)
		if got != valueOf(a).RatString() {
			t.Errorf("Text of %v: %s", a, got)
		}
		back, e := Parse(got)
		expectOK(t, "Parse of Text", back, e, valueOf(a))
	}
}

func TestDecimalExamples(t *testing.T) {
	for _, c := range []struct {
		a      string
		places int
		want   string
	}{
		{"2/3", 3, "0.667"}, {"-1/2", 0, "-1"}, {"1/2", 0, "1"}, {"1/8", 2, "0.13"}, {"-1/8", 2, "-0.13"}, {"-1/300", 2, "0.00"}, {"5", 2, "5.00"}, {"-25/2", 1, "-12.5"}, {"1999/1000", 2, "2.00"},
		{"0", 0, "0"}, {"0", 3, "0.000"}, {"-1/200", 2, "-0.01"}, {"-49/10000", 2, "0.00"}, {"1/3", 0, "0"}, {"-1/3", 0, "0"}, {"3/2", 0, "2"}, {"-3/2", 0, "-2"}, {"999/1000", 2, "1.00"}, {"7/1000", 3, "0.007"},
	} {
		if got, e := Decimal(f(t, c.a), c.places); e != api.OK || got != c.want {
			t.Errorf("Decimal of %s with %d places: %s, %d", c.a, c.places, got, e)
		}
	}
	if got, e := Decimal(api.Frac{Neg: true, D: []uint32{3}}, 1); e != api.OK || got != "0.0" {
		t.Errorf("Decimal of -0/3: %s, %d", got, e)
	}
	for _, places := range []int{-1, api.MaxPlaces + 1, math.MaxInt, math.MinInt} {
		if got, e := Decimal(f(t, "5"), places); e != api.ErrArg || got != "" {
			t.Errorf("Decimal with %d places: %s, %d", places, got, e)
		}
	}
	if got, e := Decimal(f(t, "-1/3"), api.MaxPlaces); e != api.OK || got != "-0."+strings.Repeat("3", api.MaxPlaces) {
		t.Errorf("Decimal with all places: %s, %d", got, e)
	}
}

func TestDecimal(t *testing.T) {
	for i, a := range samples(17, 2000) {
		x, places := valueOf(a), i%23
		got, e := Decimal(a, places)
		want := x.FloatString(places) // which rounds halves away from 0, too
		if strings.Trim(want, "-0.") == "" {
			want = strings.TrimPrefix(want, "-")
		}
		if e != api.OK || got != want {
			t.Errorf("Decimal of %s with %d places: %s, %d", x, places, got, e)
		}
		back, e := Parse(got)
		miss := new(big.Rat).Sub(valueOf(back), x)
		half := powerOf(big.NewRat(1, 10), places)
		half.Quo(half, big.NewRat(2, 1))
		if e != api.OK || miss.Abs(miss).Cmp(half) > 0 {
			t.Errorf("Parse of Decimal of %s with %d places", x, places)
		}
	}
}

func TestParse(t *testing.T) {
	for s, want := range map[string]string{
		"-012.50": "-25/2", "4/6": "2/3", "-4/6": "-2/3", "-0": "0", "0.0": "0", "-0.00": "0", "00/5": "0", "-0/7": "0", "7": "7", "007": "7", "-007/0021": "-1/3", "0.125": "1/8", "1.000": "1", "3/1": "3",
		"10000000000000000000000/2": "5000000000000000000000", "123456789012345678901234567890.5": "246913578024691357802469135781/2",
	} {
		got, e := Parse(s)
		expectOK(t, "Parse of "+s, got, e, rat(t, want))
	}
	for _, n := range []int{18, 19, 20, 37, 38, 39, 9999, 10000} {
		for _, digit := range []string{"1", "9"} {
			s := strings.Repeat(digit, n)
			got, e := Parse(s)
			expectOK(t, "Parse of many digits", got, e, rat(t, s))
		}
	}
}

func TestParseErrors(t *testing.T) {
	for _, s := range []string{
		"", "-", ".5", "1.", "+1", ".", "/", "-.5", "1/", "/2", "-/2", "--1", "1/-2", "1/+2", "1/2/3", "1.2.3", "1.5/2", "1/2.5", " 1", "1 ", "1 /2", "1e5", "0x10", "1_000", "a", "1a", "12345678901234567890x",
		"\x00", "1\x00", "\xff", "1\xff", "٣", "１", "½", "1,5", "-1-", "1.-5",
	} {
		got, e := Parse(s)
		expectError(t, "Parse of "+s, got, e, api.ErrText)
	}
	for _, s := range []string{"1/0", "0/0", "-1/0", "5/000", "-0/0"} {
		got, e := Parse(s)
		expectError(t, "Parse of "+s, got, e, api.ErrZero)
	}
	for _, s := range []string{strings.Repeat("1", api.MaxDigits+1), strings.Repeat("x", api.MaxDigits+1), "1/" + strings.Repeat("0", api.MaxDigits-1)} {
		got, e := Parse(s)
		expectError(t, "Parse of a long string", got, e, api.ErrLong)
	}
	got, e := Parse(strings.Repeat("x", api.MaxDigits))
	expectError(t, "Parse of x", got, e, api.ErrText)
	got, e = Parse("1/" + strings.Repeat("0", api.MaxDigits-2))
	expectError(t, "Parse of a long 0", got, e, api.ErrZero)
}
