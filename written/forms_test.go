// Tests of P9.1: Kind, Speak, Write; and of P0.5.

package written_test

import (
	"fmt"
	"maps"
	"math/rand"
	"slices"
	"strconv"
	"strings"
	"testing"

	"earshot/api"
	"earshot/written"
)

// hugeNumber are the words of 999999999999.
const hugeNumber = "nine hundred and ninety nine billion nine hundred and ninety nine million nine hundred and ninety nine thousand nine hundred and ninety nine"

func TestForms(t *testing.T) {
	for _, x := range []pair{
		{api.KindNumber, "0", "zero"}, {api.KindNumber, "10", "ten"}, {api.KindNumber, "19", "nineteen"}, {api.KindNumber, "20", "twenty"}, {api.KindNumber, "-21", "minus twenty one"}, {api.KindNumber, "99", "ninety nine"},
		{api.KindNumber, "100", "one hundred"}, {api.KindNumber, "101", "one hundred and one"}, {api.KindNumber, "999", "nine hundred and ninety nine"}, {api.KindNumber, "1000", "one thousand"}, {api.KindNumber, "1001", "one thousand and one"},
		{api.KindNumber, "1099", "one thousand and ninety nine"}, {api.KindNumber, "1100", "one thousand one hundred"}, {api.KindNumber, "1101", "one thousand one hundred and one"}, {api.KindNumber, "101000", "one hundred and one thousand"},
		{api.KindNumber, "2345678", "two million three hundred and forty five thousand six hundred and seventy eight"}, {api.KindNumber, "1000000", "one million"}, {api.KindNumber, "1000017", "one million and seventeen"},
		{api.KindNumber, "1000000001", "one billion and one"}, {api.KindNumber, "1001000000", "one billion one million"}, {api.KindNumber, "1000001000", "one billion one thousand"}, {api.KindNumber, "999999999999", hugeNumber}, {api.KindNumber, "-999999999999", "minus " + hugeNumber},
		{api.KindOrdinal, "1st", "first"}, {api.KindOrdinal, "2nd", "second"}, {api.KindOrdinal, "3rd", "third"}, {api.KindOrdinal, "4th", "fourth"}, {api.KindOrdinal, "5th", "fifth"}, {api.KindOrdinal, "8th", "eighth"}, {api.KindOrdinal, "9th", "ninth"},
		{api.KindOrdinal, "11th", "eleventh"}, {api.KindOrdinal, "12th", "twelfth"}, {api.KindOrdinal, "13th", "thirteenth"}, {api.KindOrdinal, "20th", "twentieth"}, {api.KindOrdinal, "22nd", "twenty second"}, {api.KindOrdinal, "90th", "ninetieth"},
		{api.KindOrdinal, "100th", "one hundredth"}, {api.KindOrdinal, "103rd", "one hundred and third"}, {api.KindOrdinal, "111th", "one hundred and eleventh"}, {api.KindOrdinal, "1000th", "one thousandth"}, {api.KindOrdinal, "1012th", "one thousand and twelfth"}, {api.KindOrdinal, "1000000th", "one millionth"}, {api.KindOrdinal, "2000000000th", "two billionth"},
		{api.KindOrdinal, "999999999999th", strings.TrimSuffix(hugeNumber, "nine") + "ninth"},
		{api.KindDigits, "00", "digits zero zero"}, {api.KindDigits, "007", "digits zero zero seven"}, {api.KindDigits, "01", "digits zero one"}, {api.KindDigits, "1234567890123", "digits one two three four five six seven eight nine zero one two three"},
		{api.KindDigits, strings.Repeat("9", 20), "digits" + strings.Repeat(" nine", 20)}, {api.KindDigits, strings.Repeat("0", 20), "digits" + strings.Repeat(" zero", 20)},
		{api.KindDecimal, "1.50", "one point five zero"}, {api.KindDecimal, "-0.5", "minus zero point five"}, {api.KindDecimal, "-0.0", "minus zero point zero"}, {api.KindDecimal, "0.0", "zero point zero"}, {api.KindDecimal, "1001.000000000001", "one thousand and one point zero zero zero zero zero zero zero zero zero zero zero one"},
		{api.KindTime, "00:00", "zero hours"}, {api.KindTime, "01:00", "one hours"}, {api.KindTime, "00:01", "zero oh one"}, {api.KindTime, "07:05", "seven oh five"}, {api.KindTime, "12:30", "twelve thirty"}, {api.KindTime, "20:01", "twenty oh one"}, {api.KindTime, "20:10", "twenty ten"}, {api.KindTime, "21:20", "twenty one twenty"}, {api.KindTime, "20:21", "twenty twenty one"}, {api.KindTime, "23:59", "twenty three fifty nine"},
		{api.KindDate, "1999-12-31", "the thirty first of december nineteen ninety nine"}, {api.KindDate, "2000-02-29", "the twenty ninth of february two thousand"}, {api.KindDate, "1805-01-01", "the first of january eighteen oh five"}, {api.KindDate, "1900-03-02", "the second of march nineteen hundred"},
		{api.KindDate, "1000-04-03", "the third of april one thousand"}, {api.KindDate, "1009-05-20", "the twentieth of may one thousand and nine"}, {api.KindDate, "1010-06-21", "the twenty first of june ten ten"}, {api.KindDate, "1100-07-12", "the twelfth of july eleven hundred"}, {api.KindDate, "2001-08-13", "the thirteenth of august two thousand and one"},
		{api.KindDate, "2010-09-14", "the fourteenth of september twenty ten"}, {api.KindDate, "2100-10-15", "the fifteenth of october twenty one hundred"}, {api.KindDate, "2021-11-16", "the sixteenth of november twenty twenty one"}, {api.KindDate, "2999-02-28", "the twenty eighth of february twenty nine ninety nine"},
		{api.KindMoney, "$1", "one dollar"}, {api.KindMoney, "$0.01", "one cent"}, {api.KindMoney, "$0.02", "two cents"}, {api.KindMoney, "$0.99", "ninety nine cents"}, {api.KindMoney, "$2.50", "two dollars and fifty cents"}, {api.KindMoney, "$0", "zero dollars"}, {api.KindMoney, "$1.01", "one dollar and one cent"},
		{api.KindMoney, "$101", "one hundred and one dollars"}, {api.KindMoney, "$1000.01", "one thousand dollars and one cent"}, {api.KindMoney, "$999999999999.99", hugeNumber + " dollars and ninety nine cents"},
	} {
		check(t, x)
	}
}

func TestWrong(t *testing.T) {
	checkWrong(t,
		"", "-", "-0", "--1", "+1", "1-", " 1", "1 ", "1 1", "1,000", "-1000000000000", "-01", "-00", "a", "one", "#", "-#", "\xff", "1\xff", "\xff1", "１", "٣", "0٣", "1e3", "0x1",
		"01st", "1th", "2st", "0th", "0st", "12nd", "11st", "13rd", "111st", "1ST", "-1st", "st", "th", "1st1", "1000000000000th", "21th",
		strings.Repeat("0", 21), strings.Repeat("1", 21), "1234567890123456789012", "-1234567890123", "-007",
		"1.", ".5", "01.5", "1.2345678901234", "1.1234567890123", "1000000000000.1", "-.5", "1.5.5", "1.-5", "-00.5", "1,5", "007.5",
		"24:00", "23:60", "7:05", "07:60", "07:5", "07:005", "007:05", "0705:", ":", "07:", ":05", "-07:05", "07:05:00", "07.05:1",
		"1900-02-29", "0999-01-01", "3000-01-01", "2000-13-01", "2000-00-01", "2000-01-00", "2000-01-32", "2000-04-31", "2001-02-29", "2000-02-30", "2000-1-1", "2000-01-1", "2000-1-01", "02000-01-01", "200-01-01", "2000-01-01-01", "-2000-01-01", "2000--01-01", "2000-01",
		"$0.00", "$5.00", "$01", "$", "$.50", "$1.5", "$1.505", "$-1", "-$1", "$1.", "$00.50", "$1000000000000", "$1000000000000.50", "$$1", "1$", "$1.-5", "$007",
	)
}

func TestUnspoken(t *testing.T) {
	checkUnspoken(t,
		"", " ", "twenty sixty", "one hundred one", "and one", "one thousand one", "minus zero", "minus", "zero one", "one zero", "twenty zero", "twenty  one", " one", "one ", "First", "ONE", "one\n", "1", "a", "\xff",
		"ten hundred", "zero hundred", "one hundred and", "one hundred and zero", "one hundred hundred", "one hundred and one hundred", "one thousand and one hundred", "one thousand thousand", "one thousand one million", "one million and one thousand", "one thousand million", "thousand", "hundred", "hundred one", "and", "twenty eleven twenty", "one two", "twenty and one", "one hundred and and one", "one thousand billion", "zero thousand", "one million zero thousand",
		"one first", "zeroth", "oneth", "twoth", "fiveth", "nineth", "twelveth", "twentyth", "twenty oneth", "twentieth one", "first first", "minus first", "one hundred first", "one thousand first", "twenty tenth", "tenth hundred", "andth", "pointth", "th", "ieth", "one hundredth and one", "first hundred", "one thousandth million", "zero first",
		"digits", "digits one", "digits zero", "digits one two", "digits zero ten", "digits zero one and", "digits"+strings.Repeat(" zero", 21), "digits"+strings.Repeat(" one", 12), "digits"+strings.Repeat(" one", 21), "zero digits zero", "minus digits zero zero", "digits digits zero zero", "digit zero zero",
		"point five", "one point", "one point ten", "one point"+strings.Repeat(" zero", 13), "one point point one", "minus point one", "minus minus one", "minus minus one point one", "one point one point one", "first point one", "one point one and",
	)
}

func TestUnspokenRest(t *testing.T) {
	checkUnspoken(t,
		"seven oh", "oh five", "seven oh zero", "seven oh ten", "seven five", "seven zero", "twenty four hours", "twenty four oh one", "twenty three sixty", "seven hour", "zero zero", "hours", "seven hours oh one", "seven oh five hours", "minus seven oh five", "seven hundred hours", "seven oh oh five", "ten sixty", "twenty three sixty one", "first hours", "thirty ten",
		"the first of may", "the first of may nineteen", "the second of march nineteen", "first of may two thousand", "the first may two thousand", "the of may two thousand", "the one of may two thousand", "the first of first two thousand", "the thirty second of may two thousand", "the thirty first of april two thousand", "the twenty ninth of february nineteen hundred", "the twenty ninth of february twenty one hundred", "the zeroth of may two thousand",
		"the first of may twenty hundred", "the first of may ten hundred", "the first of may twenty oh five", "the first of may ten oh one", "the first of may two thousand and ten", "the first of may two thousand ten", "the first of may two thousand nine", "the first of may one thousand nine hundred", "the first of may nineteen oh", "the first of may nineteen oh ten", "the first of may nineteen five", "the first of may nineteen zero five", "the first of may three thousand", "the first of may thirty hundred", "the first of may nine ninety nine", "the first of may nine hundred", "the first of may thirty oh one", "the first of may one hundred thousand", "the first of may one million", "the first of may nineteen hundred and one", "the first of may nineteen hundred hundred", "the first of may seven", "the first of may oh five", "the first of may nineteen hundred oh one", "the first of may the first", "the the first of may two thousand", "the first of of may two thousand", "minus the first of may two thousand", "the first of may minus two thousand", "the first of may two thousandth", "the one hundred and first of may two thousand", "the first of may hundred",
		"one dollars", "two dollar", "zero cents", "zero dollar", "one cents", "two cent", "zero dollars and five cents", "one dollar and zero cents", "one dollar and", "one dollar one cent", "one dollar and one hundred cents", "one hundred cents", "dollar", "dollars", "cents", "cent", "minus one dollar", "one cent and one dollar", "one dollar and one dollar", "one cent and one cent", "and one cent", "one dollar and one dollar and one cent", "first dollar", "one point five dollars", "two dollars and one cents", "two dollars and two cent",
	)
}

// TestDefinition compares valid forms of all kinds with the definitions, and checks that no two of them have the same spoken form.
func TestDefinition(t *testing.T) {
	r := rand.New(rand.NewSource(1))
	spoken := map[string]string{}
	kinds := map[api.FormKind]int{}
	for range 30000 {
		w := randomForm(r, 1+r.Intn(12))
		x := checkDefinition(t, w)
		if other, ok := spoken[x.spoken]; ok && other != w {
			t.Fatalf("%q and %q are both spoken %q", other, w, x.spoken)
		}
		spoken[x.spoken] = w
		kinds[x.kind]++
	}
	for kind := api.KindNumber; kind <= api.KindMoney; kind++ {
		if kinds[kind] < 500 {
			t.Errorf("only %d forms of the kind %d", kinds[kind], kind)
		}
	}
}

// TestSmallForms compares all forms of some kinds, with few digits, with the definitions.
func TestSmallForms(t *testing.T) {
	for n := range 3000 {
		s := strconv.Itoa(n)
		checkDefinition(t, s)
		checkDefinition(t, "$"+s)
		if n > 0 {
			checkDefinition(t, "-"+s)
			checkDefinition(t, s+suffix(s))
			checkDefinition(t, "0"+s)
		}
		if n%100 > 0 {
			checkDefinition(t, fmt.Sprintf("$%d.%02d", n/100, n%100))
		}
		checkDefinition(t, fmt.Sprintf("%d.%02d", n/100, n%100))
		checkDefinition(t, fmt.Sprintf("-%d.%d", n/10, n%10))
	}
	for minutes := range 24 * 60 {
		checkDefinition(t, fmt.Sprintf("%02d:%02d", minutes/60, minutes%60))
	}
}

// TestAnyWritten compares strings that are nearly written forms with the definitions.
func TestAnyWritten(t *testing.T) {
	r := rand.New(rand.NewSource(2))
	letters := strings.Split("0123456789-.:$stndrh a\x00é", "")
	valid, wrong := 0, 0
	for range 60000 {
		w := strings.Join(changed(r, strings.Split(randomForm(r, 1+r.Intn(12)), ""), letters), "")
		kind, spoken := oneForm(w)
		if kind != 0 {
			check(t, pair{kind, w, spoken})
			valid++
		} else {
			checkWrong(t, w)
			wrong++
		}
	}
	if valid < 5000 || wrong < 5000 {
		t.Errorf("%d valid and %d wrong forms", valid, wrong)
	}
}

// TestAnySpoken compares lists of words that are nearly spoken forms with the definitions.
func TestAnySpoken(t *testing.T) {
	r := rand.New(rand.NewSource(3))
	words := slices.Sorted(maps.Keys(vocabulary()))
	valid, wrong := 0, 0
	for range 30000 {
		list := changed(r, strings.Fields(spokenOf(t, randomForm(r, 1+r.Intn(12)))), words)
		spoken := strings.Join(list, " ")
		w := writtenForm(list)
		if w == "" {
			checkUnspoken(t, spoken)
			wrong++
			continue
		}
		valid++
		if got, e := written.Write(spoken); got != w || e != api.OK {
			t.Errorf("%q: %q, not %q (%d)", spoken, got, w, e)
		}
		if back := spokenOf(t, w); back != spoken {
			t.Errorf("%q is %q, and this %q", spoken, w, back)
		}
	}
	if valid < 3000 || wrong < 3000 {
		t.Errorf("%d valid and %d wrong forms", valid, wrong)
	}
}

// TestFewWords compares all lists of one and two words, and many of three and four, with the definitions.
func TestFewWords(t *testing.T) {
	r := rand.New(rand.NewSource(4))
	words := slices.Sorted(maps.Keys(vocabulary()))
	compare := func(list ...string) {
		want, spoken := writtenForm(list), strings.Join(list, " ")
		if got, e := written.Write(spoken); got != want || (e == api.OK) != (want != "") {
			t.Errorf("%q: %q, not %q (%d)", spoken, got, want, e)
		}
	}
	any := func() string { return words[r.Intn(len(words))] }
	for _, a := range words {
		compare(a)
		for _, b := range words {
			compare(a, b)
			compare(a, b, any())
			compare(a, any(), any(), b)
		}
	}
}
