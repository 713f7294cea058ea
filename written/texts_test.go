// Tests of P9.4: WriteText, SpeakText, Readings.

package written_test

import (
	"maps"
	"math/rand"
	"slices"
	"strings"
	"testing"

	"earshot/api"
	"earshot/written"
)

func TestTexts(t *testing.T) {
	for spoken, want := range map[string]string{
		"": "", "a": "a", "one": "1", "call me at seven oh five on the first of may twenty twenty": "call me at 07:05 on 2020-05-01", "the cat": "the cat",
		"twenty one twenty": "21:20", "twenty twenty twenty": "20:20 20", "ten ten ten": "10:10 10", "ten ten ten ten": "10:10 10:10", "one hundred and": "100 and", "one hundred and the cat": "100 and the cat", "one two three": "1 2 3",
		"one thousand one": "1000 1", "one thousand and one hundred": "1001 hundred", "twenty sixty": "20 60", "zero zero": "0 0", "digits one": "digits 1", "digits zero": "digits 0", "digits zero one": "01", "minus zero": "minus 0", "minus zero point zero": "-0.0", "minus one minus": "-1 minus",
		"one point five point five": "1.5 point 5", "seven oh": "7 oh", "seven oh five oh five": "07:05 oh 5", "oh five": "oh 5", "the first of may": "the 1st of may", "the first of may nineteen": "the 1st of may 19", "the first of may nineteen hundred": "1900-05-01", "the thirty first of april two thousand": "the 31st of april 2000",
		"two dollars and fifty": "$2 and 50", "two dollars and fifty cents": "$2.50", "two dollars and one hundred cents": "$2 and 100 cents", "zero dollars and five cents": "$0 and $0.05", "five cents and one dollar": "$0.05 and $1", "one first": "1 1st", "one hundred first": "100 1st", "twenty first second": "21st 2nd",
		"hundred and one": "hundred and 1", "first hundredth": "1st hundredth", "one hundredth": "100th", "an and zeroth andth": "an and zeroth andth", "z" + strings.Repeat(" a", 999): "z" + strings.Repeat(" a", 999),
		"minus " + hugeNumber + " point" + strings.Repeat(" nine", 13): "-999999999999." + strings.Repeat("9", 12) + " 9", "digits" + strings.Repeat(" two", 21): strings.Repeat("2", 20) + " 2", hugeNumber + " dollars and ninety nine cents": "$999999999999.99", hugeNumber + " billion": "999999999999 billion",
	} {
		got, e := written.WriteText(spoken)
		if got != want || e != api.OK {
			t.Errorf("%q: %q, not %q (%d)", spoken, got, want, e)
		}
		if back, e := written.SpeakText(got); back != spoken || e != api.OK {
			t.Errorf("%q: %q, not %q (%d)", got, back, spoken, e)
		}
	}
}

func TestSpeakText(t *testing.T) {
	for w, want := range map[string]string{
		"room 12 costs $3": "room twelve costs three dollars", "1 2": "one two", "100 and 1": "one hundred and one", "one 1st 01 1.0 01:00 $0.01": "one first digits zero one one point zero one hours one cent", "-1 -1.5 minus": "minus one minus one point five minus",
		"on 2000-02-29": "on the twenty ninth of february two thousand", "st 1st": "st first", "zero": "zero",
		// What is spoken may have more bytes than a text may have.
		strings.TrimSpace(strings.Repeat("77 ", 600)): strings.TrimSpace(strings.Repeat("seventy seven ", 600)),
	} {
		if got, e := written.SpeakText(w); got != want || e != api.OK {
			t.Errorf("%q: %q (%d)", w, got, e)
		}
	}
	for _, bad := range []string{" ", "a  b", "a ", " a", "A", "x 1-2", "1 -0", "2001-02-29", "a,", "$", "x 1 y .", "\xff", "a\nb", "é", "7:05", "a -", "1 -1000000000000", "-", "1st 1th"} {
		if got, e := written.SpeakText(bad); got != "" || e != api.ErrText {
			t.Errorf("%q: %q, %d", bad, got, e)
		}
	}
}

func TestNoText(t *testing.T) {
	for _, bad := range []string{" ", "a  b", "a ", " a", "A", "1", "one 1", "a,b", "one-two", "\xff", "a\tb", "a\n", "é", "{", "`", "one  two", "twenty one "} {
		if got, e := written.WriteText(bad); got != "" || e != api.ErrText {
			t.Errorf("%q: %q, %d", bad, got, e)
		}
		if got, e := written.Readings(bad); got != nil || e != api.ErrText {
			t.Errorf("%q: %q, %d", bad, got, e)
		}
	}
}

func TestReadings(t *testing.T) {
	for spoken, want := range map[string][]string{
		"": {""}, "a": {"a"}, "a cat": {"a cat"}, "the cat": nil, "cat and": nil, "zero": {"0"}, "minus zero": nil, "twenty one": {"21", "20 1"}, "ten ten ten": {"10 10:10", "10:10 10", "10 10 10"},
		"a twenty one b": {"a 21 b", "a 20 1 b"}, "one hundred and one": {"101"}, "one hundred one": {"100 1"}, "one thousand one hundred": {"1100", "1000 100"}, "zeroth": {"zeroth"}, "oneth andth pointth": {"oneth andth pointth"}, "hundred": nil, "hundredth": nil, "one hundredth": {"100th"},
		"twenty first": {"21st", "20 1st"}, "digits zero one": {"01"}, "digits one two": nil, "digits zero one two": {"012", "01 2"}, "one point two three": {"1.23", "1.2 3"}, "minus one": {"-1"}, "one oh one": {"01:01"}, "one oh": nil, "two dollars and fifty cents": {"$2.50"}, "fifty cents": {"$0.50"}, "two dollars and fifty": nil,
		"the first of may twenty ten": {"2010-05-01"}, "the first of may nineteen ninety nine": {"1999-05-01", "1990-05-01 9"}, "the first of may two thousand and nine": {"2009-05-01"}, "the first of may two thousand nine": {"2000-05-01 9"}, "cent of oh hours": nil,
	} {
		got, e := written.Readings(spoken)
		if !slices.Equal(got, want) || e != api.OK {
			t.Errorf("%q: %q (%d)", spoken, got, e)
		}
	}
}

// TestReadingsBound checks texts with as many readings as there may be, with a few more, and with very many.
func TestReadingsBound(t *testing.T) {
	twos, threes := strings.Repeat(" a twenty one", 3), strings.Repeat(" a ten ten ten", 2)
	fives := strings.Repeat(" a ten ten ten ten", 3)
	many := strings.Repeat(" twenty", 200)
	for _, c := range []struct {
		spoken string
		most   int
		e      api.Errno
	}{
		{"a" + fives + " a ten ten a ten ten", 500, api.OK}, {"a" + twos + threes + " a digits zero one two three four five six", 432, api.OK}, {"a" + twos + threes + " a digits zero one two three four five six seven", 0, api.ErrLong},
		{"a" + strings.Repeat(" twenty", 13), 377, api.OK}, {"a" + strings.Repeat(" twenty", 14), 0, api.ErrLong}, {"a" + many, 0, api.ErrLong},
		// These have no readings, though most of their words have many.
		{"a" + many + " the", 0, api.OK}, {"the" + many, 0, api.OK}, {"a the" + many + " the", 0, api.OK},
	} {
		if got, e := written.Readings(c.spoken); len(got) != c.most || e != c.e {
			t.Errorf("%q: %d readings (%d), not %d", c.spoken, len(got), e, c.most)
		}
	}
}

// randomText returns a spoken text of words, forms, and forms that are changed.
func randomText(t *testing.T, r *rand.Rand, words []string) string {
	t.Helper()
	var list []string
	for range r.Intn(4) {
		form := strings.Fields(spokenOf(t, randomForm(r, 1+r.Intn(4))))
		switch r.Intn(4) {
		case 0:
			list = append(list, words[r.Intn(len(words))])
		case 1:
			list = append(list, changed(r, form, words)...)
		default:
			list = append(list, form...)
		}
	}
	return strings.Join(list, " ")
}

// TestTextsDefinition compares with the definitions.
func TestTextsDefinition(t *testing.T) {
	r := rand.New(rand.NewSource(6))
	all := vocabulary()
	words := append(slices.Sorted(maps.Keys(all)), "a", "cat", "zeroth", "oneth", "andth", "pair", "z")
	several := 0
	for range 1500 {
		spoken := randomText(t, r, words)
		text, e := written.WriteText(spoken)
		if want := textByDefinition(spoken); text != want || e != api.OK {
			t.Fatalf("%q: %q, not %q (%d)", spoken, text, want, e)
		}
		if back, e := written.SpeakText(text); back != spoken || e != api.OK {
			t.Fatalf("%q: %q, not %q (%d)", text, back, spoken, e)
		}
		readings, e := written.Readings(spoken)
		want := readingsByDefinition(spoken, all)
		if len(want) > api.MaxReadings {
			if readings != nil || e != api.ErrLong {
				t.Fatalf("%q: %d readings (%d)", spoken, len(readings), e)
			}
			continue
		}
		if !slices.Equal(readings, want) || e != api.OK {
			t.Fatalf("%q: %q, not %q (%d)", spoken, readings, want, e)
		}
		checkReadings(t, spoken, text, readings, all)
		if len(want) > 1 {
			several++
		}
	}
	if several < 200 {
		t.Errorf("only %d texts with several readings", several)
	}
}

// checkReadings checks what the chapter says of all readings, and of the text that WriteText returns.
func checkReadings(t *testing.T, spoken, text string, readings []string, all map[string]bool) {
	t.Helper()
	for _, reading := range readings {
		if back, e := written.SpeakText(reading); back != spoken || e != api.OK {
			t.Errorf("%q is read %q, which is %q (%d)", spoken, reading, back, e)
		}
	}
	stays := slices.ContainsFunc(strings.Fields(text), func(part string) bool { return all[part] })
	if !stays && !slices.Contains(readings, text) {
		t.Errorf("%q is no reading of %q", text, spoken)
	}
}

// TestVocabulary checks that each word of spoken forms must be written, and that other words stay.
func TestVocabulary(t *testing.T) {
	all := vocabulary()
	// There are 32 words of cardinals, 31 of ordinals, 12 months, and 12 others.
	if len(all) != 87 {
		t.Errorf("%d words", len(all))
	}
	for word := range all {
		if got, e := written.Readings(word); e != api.OK || slices.Contains(got, word) {
			t.Errorf("%q: %q (%d)", word, got, e)
		}
		for _, other := range []string{word + "s", word + "th", word[:len(word)-1], word + "ieth", "x" + word} {
			if all[other] || other == "" {
				continue
			}
			if got, e := written.Readings(other); !slices.Equal(got, []string{other}) || e != api.OK {
				t.Errorf("%q: %q (%d)", other, got, e)
			}
		}
	}
}
