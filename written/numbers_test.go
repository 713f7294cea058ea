// Tests of P9.2: Cardinal, Ordinal, Number.

package written_test

import (
	"math"
	"math/rand"
	"strconv"
	"testing"

	"earshot/api"
	"earshot/written"
)

// someNumbers are small numbers, numbers beside multiples of powers of 10, and others of any length.
func someNumbers() []int {
	r := rand.New(rand.NewSource(5))
	var list []int
	for n := range 2300 {
		list = append(list, n)
	}
	for power := 1000; power <= 1000000000000; power *= 10 {
		for k := 1; k <= 10; k++ {
			for d := -2; d <= 20; d++ {
				if n := k*power + d; n < 1000000000000 {
					list = append(list, n)
				}
			}
		}
	}
	for range 3000 {
		n, _ := strconv.Atoi(randomCardinal(r, 12))
		list = append(list, n)
	}
	return append(list, 999999999999)
}

// TestNumbers compares with the definitions, and checks that different numbers have different spoken forms.
func TestNumbers(t *testing.T) {
	spoken := map[string]string{}
	see := func(form, number string) {
		if other, ok := spoken[form]; ok && other != number {
			t.Errorf("%s and %s are both spoken %q", number, other, form)
		}
		spoken[form] = number
	}
	for _, n := range someNumbers() {
		words := inWords(strconv.Itoa(n))
		checkCardinal(t, n, words)
		see(words, strconv.Itoa(n))
		if n == 0 {
			continue
		}
		checkCardinal(t, -n, "minus "+words)
		see("minus "+words, strconv.Itoa(-n))
		if s, e := written.Ordinal(n); s != toOrdinal(words) || e != api.OK {
			t.Errorf("%d: %q (%d)", n, s, e)
		}
		see(toOrdinal(words), "ordinal "+strconv.Itoa(n))
		if back, e := written.Number(toOrdinal(words)); back != 0 || e != api.ErrText {
			t.Errorf("%q: %d (%d)", toOrdinal(words), back, e)
		}
	}
}

func checkCardinal(t *testing.T, n int, words string) {
	t.Helper()
	s, e := written.Cardinal(n)
	back, f := written.Number(words)
	if s != words || e != api.OK || back != n || f != api.OK {
		t.Errorf("%d is %q (%d); %q is %d (%d)", n, s, e, words, back, f)
	}
}

// TestNumbersAreForms checks that the functions agree with Speak and Write.
func TestNumbersAreForms(t *testing.T) {
	for _, n := range someNumbers()[:2500] {
		s, _ := written.Cardinal(n)
		if w, e := written.Write(s); w != strconv.Itoa(n) || e != api.OK {
			t.Errorf("%q: %q (%d)", s, w, e)
		}
		if n > 0 {
			s, _ = written.Ordinal(n)
			if w, e := written.Write(s); w != strconv.Itoa(n)+suffix(strconv.Itoa(n)) || e != api.OK {
				t.Errorf("%q: %q (%d)", s, w, e)
			}
		}
	}
}

func TestNumberRange(t *testing.T) {
	for _, n := range []int{1000000000000, -1000000000000, 1 << 62, math.MaxInt, math.MinInt, math.MinInt + 1} {
		if s, e := written.Cardinal(n); s != "" || e != api.ErrArg {
			t.Errorf("cardinal %d: %q, %d", n, s, e)
		}
		if s, e := written.Ordinal(n); s != "" || e != api.ErrArg {
			t.Errorf("ordinal %d: %q, %d", n, s, e)
		}
	}
	for _, n := range []int{0, -1, -999999999999} {
		if s, e := written.Ordinal(n); s != "" || e != api.ErrArg {
			t.Errorf("ordinal %d: %q, %d", n, s, e)
		}
	}
	if s, e := written.Ordinal(999999999999); e != api.OK || s[len(s)-5:] != "ninth" {
		t.Errorf("%q, %d", s, e)
	}
}

// TestNumberWrong has spoken forms of other kinds, and strings that are none.
func TestNumberWrong(t *testing.T) {
	for _, s := range []string{
		"", " ", "first", "twenty first", "one point five", "minus zero", "digits zero one", "seven oh five", "one hours", "ten ten", "one dollar", "one cent", "the first of may two thousand",
		"one hundred one", "one thousand one", "one  thousand", "one thousand ", " one", "1", "-1", "One", "one hundred and", "one thousand billion", "minus", "minus minus one", "\xff",
	} {
		if n, e := written.Number(s); n != 0 || e != api.ErrText {
			t.Errorf("%q: %d, %d", s, n, e)
		}
	}
}
