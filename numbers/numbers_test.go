package numbers_test

import (
	"slices"
	"strings"
	"testing"

	"earshot/api"
	"earshot/frac"
	"earshot/numbers"
)

// row reads numbers with blanks between them.
func row(t *testing.T, s string) []api.Frac {
	t.Helper()
	var list []api.Frac
	for _, x := range strings.Fields(s) {
		a, e := frac.Parse(x)
		if e != api.OK {
			t.Fatalf("%s: error %d", x, e)
		}
		list = append(list, a)
	}
	return list
}

// texts writes numbers with blanks between them.
func texts(list []api.Frac) string {
	var words []string
	for _, a := range list {
		words = append(words, frac.Text(a))
	}
	return strings.Join(words, " ")
}

func TestDenominator(t *testing.T) {
	for _, c := range []struct {
		rows []string
		want string
	}{
		{nil, "1"}, {[]string{""}, "1"}, {[]string{"0 1 3"}, "1"}, {[]string{"1/2 1/3"}, "6"}, {[]string{"1/4 5/6", "", "0 7/10"}, "60"}, {[]string{"1/4294967296", "1/3"}, "12884901888"},
	} {
		var rows [][]api.Frac
		for _, s := range c.rows {
			rows = append(rows, row(t, s))
		}
		if got := frac.Text(numbers.Denominator(rows...)); got != c.want {
			t.Errorf("%v: %s", c.rows, got)
		}
	}
	if got := frac.Text(numbers.Denominator([]api.Frac{{N: []uint32{2, 0}, D: []uint32{6, 0}}})); got != "3" {
		t.Errorf("2/6: %s", got)
	}
}

func TestCalculate(t *testing.T) {
	two := func(s string, f func(a, b api.Frac) api.Frac) string {
		x := row(t, s)
		return frac.Text(f(x[0], x[1]))
	}
	for _, c := range []struct{ what, got, want string }{
		{"Multiple", two("4 6", numbers.Multiple), "12"}, {"Multiple", two("5 1", numbers.Multiple), "5"}, {"Multiple", two("1 7", numbers.Multiple), "7"},
		{"Times", two("2/3 3/4", numbers.Times), "1/2"}, {"Times", two("0 3/4", numbers.Times), "0"}, {"Times", two("3/4 0", numbers.Times), "0"},
		{"Ratio", frac.Text(numbers.Ratio(6, 4)), "3/2"}, {"Ratio", frac.Text(numbers.Ratio(0, 4)), "0"},
		{"Quotient", two("2/3 3/4", numbers.Quotient), "8/9"}, {"Quotient", two("0 3", numbers.Quotient), "0"},
		{"Power", frac.Text(numbers.Power(row(t, "2/3")[0], 3)), "8/27"}, {"Power", frac.Text(numbers.Power(row(t, "2/3")[0], 0)), "1"},
		{"Greatest", frac.Text(numbers.Greatest(row(t, "1/3 1/2 0")...)), "1/2"}, {"Greatest", frac.Text(numbers.Greatest()), "0"},
		{"Multiply", texts(numbers.Multiply(row(t, "1/3 0 5"), row(t, "3/2")[0])), "1/2 0 15/2"},
		{"Divide", texts(numbers.Divide(row(t, "1/3 0 5"), row(t, "3/2")[0])), "2/9 0 10/3"},
	} {
		if c.got != c.want {
			t.Errorf("%s: %s, not %s", c.what, c.got, c.want)
		}
	}
}

// TestArgumentsStay checks that rows are neither changed nor kept.
func TestArgumentsStay(t *testing.T) {
	x, y := row(t, "1/3 0 5"), row(t, "3/2")[0]
	results := slices.Concat(numbers.Multiply(x, y), numbers.Divide(x, y), []api.Frac{numbers.Denominator(x)})
	for _, a := range results {
		clear(a.N)
		clear(a.D)
	}
	if texts(x) != "1/3 0 5" || frac.Text(y) != "3/2" {
		t.Errorf("%v and %v", x, y)
	}
}
