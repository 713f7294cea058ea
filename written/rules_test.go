// Tests of P0.1, of the errors that all functions share, and of the rules R1 to R8.

package written_test

import (
	"fmt"
	"math"
	"math/rand"
	"strings"
	"testing"

	"earshot/api"
	"earshot/written"
)

// TestLong checks that strings with one byte more than there may be are too long, whatever they contain.
func TestLong(t *testing.T) {
	for _, unit := range []string{"1", "a", " ", "\xff", "é", "one ", "0 ", "the "} {
		text := strings.Repeat(unit, 30*api.MaxSpoken)
		for _, length := range []int{1, api.MaxSpoken - 1, api.MaxSpoken, api.MaxSpoken + 1, api.MaxSpoken + 2, 30 * api.MaxSpoken} {
			for name, e := range errorsOf(text[:length]) {
				if (e == api.ErrLong) != (length > api.MaxSpoken) {
					t.Errorf("%s of %d bytes %q: %d", name, length, unit, e)
				}
			}
		}
	}
}

// errorsOf returns the errors of all functions of a string.
func errorsOf(text string) map[string]api.Errno {
	list := map[string]api.Errno{}
	_, list["Kind"] = written.Kind(text)
	_, list["Speak"] = written.Speak(text)
	_, list["Write"] = written.Write(text)
	_, list["Number"] = written.Number(text)
	_, list["WriteText"] = written.WriteText(text)
	_, list["SpeakText"] = written.SpeakText(text)
	_, list["Readings"] = written.Readings(text)
	return list
}

// answers writes what all functions return.
func answers(text string, a, b, c int) string {
	var list []any
	add := func(x ...any) { list = append(list, x...) }
	add(written.Kind(text))
	add(written.Speak(text))
	add(written.Write(text))
	add(written.Number(text))
	add(written.WriteText(text))
	add(written.SpeakText(text))
	add(written.Readings(text))
	add(written.Cardinal(a))
	add(written.Ordinal(a))
	add(written.Leap(a), written.Day(a, b, c))
	return fmt.Sprintf("%q", list)
}

// TestAnyArguments checks that functions return for any strings and numbers, with zero values beside errors, and the same for the same arguments.
func TestAnyArguments(t *testing.T) {
	r := rand.New(rand.NewSource(7))
	numbers := []int{0, 1, -1, 12, 31, 2000, 1 << 40, math.MaxInt, math.MinInt}
	pieces := append(strings.Fields("one twenty hundred and thousand first the of may point digits minus oh hours dollars cents zero - . : $ 0 12 th st 2000 é \xff \x00"), " ", " ", " ", "")
	for range 20000 {
		text := ""
		for range r.Intn(12) {
			text += pieces[r.Intn(len(pieces))]
		}
		any := func() int { return numbers[r.Intn(len(numbers))] }
		a, b, c := any(), any(), any()
		first := answers(text, a, b, c)
		if second := answers(text, a, b, c); first != second {
			t.Fatalf("%q, %d: %s and %s", text, a, first, second)
		}
		checkErrors(t, text, a)
	}
}

// checkErrors checks that other results are zero values if there is an error.
func checkErrors(t *testing.T, text string, n int) {
	t.Helper()
	s1, e1 := written.Speak(text)
	s2, e2 := written.Write(text)
	s3, e3 := written.WriteText(text)
	s4, e4 := written.SpeakText(text)
	s5, e5 := written.Cardinal(n)
	s6, e6 := written.Ordinal(n)
	for i, e := range []api.Errno{e1, e2, e3, e4, e5, e6} {
		if s := []string{s1, s2, s3, s4, s5, s6}[i]; e != api.OK && s != "" {
			t.Fatalf("%q, %d: %q with the error %d", text, n, s, e)
		}
	}
	k, e7 := written.Kind(text)
	m, e8 := written.Number(text)
	l, e9 := written.Readings(text)
	if e7 != api.OK && k != 0 || e8 != api.OK && m != 0 || e9 != api.OK && l != nil {
		t.Fatalf("%q: %d (%d), %d (%d), %q (%d)", text, k, e7, m, e8, l, e9)
	}
}

// TestMemory checks that results share no memory with each other.
func TestMemory(t *testing.T) {
	first, _ := written.Readings("twenty one")
	second, _ := written.Readings("twenty one")
	first[0], first[1] = "x", "y"
	if second[0] != "21" || second[1] != "20 1" {
		t.Errorf("%q", second)
	}
	third, _ := written.Readings("twenty one")
	if third[0] != "21" || third[1] != "20 1" {
		t.Errorf("%q", third)
	}
}

// TestWorst checks that texts that take the most time are answered.
func TestWorst(t *testing.T) {
	for _, unit := range []string{"ten", "a", "zero", "the", "and", "one hundred and", "nineteen", "twenty one", "digits", "first", "minus", hugeNumber, "the first of may twenty twenty", "minus " + hugeNumber + " point one two three four five six seven eight nine zero one two"} {
		spoken := strings.TrimSpace(strings.Repeat(unit+" ", (api.MaxSpoken+1)/(len(unit)+1)))
		text, e := written.WriteText(spoken)
		back, f := written.SpeakText(text)
		if e != api.OK || f != api.OK || back != spoken {
			t.Errorf("%q: %d, %d", unit, e, f)
		}
		if _, e := written.Readings(spoken); e != api.OK && e != api.ErrLong {
			t.Errorf("%q: %d", unit, e)
		}
	}
}
