// Package numbers has the calculations with rational numbers that several layers share. Some of them serve to multiply weights so that they are integers, because sums of integers take much less time than sums of fractions.
package numbers

import (
	"earshot/api"
	"earshot/frac"
	"earshot/lists"
)

// Denominator returns the least positive integer by which all weights can be multiplied to be integers.
func Denominator(rows ...[]api.Frac) api.Frac {
	common := frac.Of(1)
	for _, row := range rows {
		for _, x := range row {
			common = Multiple(common, denominator(x))
		}
	}
	return common
}

// denominator returns the denominator of a in lowest terms.
func denominator(a api.Frac) api.Frac {
	d := frac.Canon(a).D
	if len(d) == 0 {
		return frac.Of(1)
	}
	return api.Frac{N: d}
}

// Multiple returns the least common multiple of two positive integers.
func Multiple(a, b api.Frac) api.Frac {
	return frac.Mul(a, denominator(Quotient(a, b)))
}

// Times returns x y. Often most weights are 0; they take no time.
func Times(x, y api.Frac) api.Frac {
	if len(x.N) == 0 || len(y.N) == 0 {
		return api.Frac{}
	}
	return frac.Mul(x, y)
}

// Ratio returns a / b, for b that is not 0.
func Ratio(a, b int) api.Frac {
	c, _ := frac.Make(a, b)
	return c
}

// Quotient returns a / b, for b that is not 0.
func Quotient(a, b api.Frac) api.Frac {
	c, _ := frac.Div(a, b)
	return c
}

// Power returns a to the power n, which is from 0 to api.MaxPower.
func Power(a api.Frac, n int) api.Frac {
	b, _ := frac.Pow(a, n)
	return b
}

// Greatest returns the greatest one of numbers that are not negative, 0 if there are none.
func Greatest(l ...api.Frac) api.Frac {
	if len(l) == 0 {
		return api.Frac{}
	}
	return l[frac.Best(l...)]
}

// Multiply returns a row times a factor.
func Multiply(row []api.Frac, factor api.Frac) []api.Frac {
	return lists.Map(row, func(x api.Frac) api.Frac { return Times(x, factor) })
}

// Divide returns a row divided by a number, which is not 0.
func Divide(row []api.Frac, by api.Frac) []api.Frac {
	return lists.Map(row, func(x api.Frac) api.Frac { return Quotient(x, by) })
}

// ProductOf returns the product of any number of weights. It multiplies products of halves, because one weight after the other would be multiplied by longer and longer numbers.
func ProductOf(weights []api.Frac) api.Frac {
	if len(weights) <= 100 {
		return frac.Product(weights...)
	}
	half := len(weights) / 2
	return frac.Mul(ProductOf(weights[:half]), ProductOf(weights[half:]))
}
