package written_test

import (
	"fmt"
	"math/rand"
	"strconv"
	"strings"
	"testing"

	"earshot/api"
	"earshot/written"
)

// pair is a written form with its kind and its spoken form.
type pair struct {
	kind            api.FormKind
	written, spoken string
}

// check checks a valid written form in both directions.
func check(t *testing.T, want pair) {
	t.Helper()
	k, e1 := written.Kind(want.written)
	s, e2 := written.Speak(want.written)
	w, e3 := written.Write(want.spoken)
	if (pair{k, w, s}) != want || e1 != api.OK || e2 != api.OK || e3 != api.OK {
		t.Fatalf("%v: %d (%d), %q (%d), %q (%d)", want, k, e1, s, e2, w, e3)
	}
}

// checkDefinition checks a valid written form against its definition, which is returned.
func checkDefinition(t *testing.T, w string) pair {
	t.Helper()
	kind, spoken := oneForm(w)
	if kind == 0 {
		t.Fatalf("%q is not valid", w)
	}
	want := pair{kind, w, spoken}
	check(t, want)
	return want
}

// checkWrong checks that strings are no written forms.
func checkWrong(t *testing.T, list ...string) {
	t.Helper()
	for _, w := range list {
		if k, e := written.Kind(w); k != 0 || e != api.ErrText {
			t.Errorf("%q: %d, %d", w, k, e)
		}
		if s, e := written.Speak(w); s != "" || e != api.ErrText {
			t.Errorf("%q: %q, %d", w, s, e)
		}
	}
}

// checkUnspoken checks that strings are no spoken forms.
func checkUnspoken(t *testing.T, list ...string) {
	t.Helper()
	for _, s := range list {
		if w, e := written.Write(s); w != "" || e != api.ErrText {
			t.Errorf("%q: %q, %d", s, w, e)
		}
	}
}

// randomDigits returns so many digits.
func randomDigits(r *rand.Rand, n int) string {
	list := ""
	for range n {
		// Zeros are where numbers go wrong, so they are frequent.
		list += strconv.Itoa(max(0, r.Intn(15)-5))
	}
	return list
}

// randomCardinal returns a cardinal that is not negative, with at most so many digits.
func randomCardinal(r *rand.Rand, most int) string {
	digits := strings.TrimLeft(randomDigits(r, 1+r.Intn(most)), "0")
	if digits == "" {
		return "0"
	}
	return digits
}

// randomForm returns a valid written form of any kind.
func randomForm(r *rand.Rand, mostDigits int) string {
	for {
		if w := randomShape(r, mostDigits); w != "" {
			if kind, _ := oneForm(w); kind != 0 {
				return w
			}
		}
	}
}

func randomShape(r *rand.Rand, mostDigits int) string {
	n := randomCardinal(r, mostDigits)
	sign := []string{"", "-"}[r.Intn(2)]
	switch api.KindNumber + api.FormKind(r.Intn(7)) {
	case api.KindNumber:
		return sign + n
	case api.KindOrdinal:
		return n + suffix(n)
	case api.KindDigits:
		return []string{"0", ""}[r.Intn(2)] + randomDigits(r, 1+r.Intn(19))
	case api.KindDecimal:
		return sign + n + "." + randomDigits(r, 1+r.Intn(mostDigits))
	case api.KindTime:
		return fmt.Sprintf("%02d:%02d", r.Intn(24), r.Intn(60)*r.Intn(2))
	case api.KindDate:
		return fmt.Sprintf("%d%s-%02d-%02d", 1+r.Intn(2), randomDigits(r, 3), 1+r.Intn(12), 1+r.Intn(31))
	}
	return "$" + n + []string{"", "." + randomDigits(r, 2)}[r.Intn(2)]
}

// changed returns a list of which one element is left out, doubled, exchanged with the next one, or replaced by one of some others.
func changed(r *rand.Rand, list, others []string) []string {
	i := r.Intn(len(list))
	var c []string
	c = append(c, list[:i]...)
	switch r.Intn(4) {
	case 0:
		return append(c, list[i+1:]...)
	case 1:
		return append(append(c, list[i]), list[i:]...)
	case 2:
		c = append(c, list[i:]...)
		j := (i + 1) % len(c)
		c[i], c[j] = c[j], c[i]
		return c
	}
	return append(append(c, others[r.Intn(len(others))]), list[i+1:]...)
}

// spokenOf speaks a valid written form.
func spokenOf(t *testing.T, w string) string {
	t.Helper()
	s, e := written.Speak(w)
	if e != api.OK {
		t.Fatalf("%q: %d", w, e)
	}
	return s
}
