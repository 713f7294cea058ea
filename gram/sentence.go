package gram

import (
	"earshot/api"
	"earshot/checks"
	"earshot/frac"
	"earshot/lists"
	"earshot/numbers"
)

// Sentence returns the weight of a sentence.
func Sentence(l api.Language, s []int) (api.Frac, api.Errno) {
	if e := checks.First(Check(l), checkSentence(s, l.Table.Words)); e != api.OK {
		return api.Frac{}, e
	}
	return weigh(l, s)[0], api.OK
}

// Usual returns 1 if a is more usual than b, -1 if b is more usual than a, 0 otherwise.
func Usual(l api.Language, a, b []int) (int, api.Errno) {
	words := l.Table.Words
	if e := checks.First(Check(l), checkSentence(a, words), checkSentence(b, words)); e != api.OK {
		return 0, e
	}
	weights := weigh(l, a, b)
	return compareMeans(weights[0], len(a)+1, weights[1], len(b)+1), api.OK
}

// weigh returns the weights of sentences.
func weigh(l api.Language, sentences ...[]int) []api.Frac {
	var histories [][]int
	for _, s := range sentences {
		for gram := range grams(l.Table.Order, s) {
			h, _ := split(gram)
			histories = append(histories, h)
		}
	}
	m := smooth(l, histories...)
	return lists.Map(sentences, func(s []int) api.Frac {
		var weights []api.Frac
		for gram := range grams(l.Table.Order, s) {
			weights = append(weights, m.weight(split(gram)))
		}
		return numbers.ProductOf(weights)
	})
}

// compareMeans compares the geometric means of n and m weights with the products a and b, that is, a to the power m with b to the power n. These powers may be very long, so it looks only at their first digits as long as these may tell.
func compareMeans(a api.Frac, n int, b api.Frac, m int) int {
	common := divisor(n, m)
	n, m = n/common, m/common
	for keep := 4; keep <= 1024; keep *= 4 {
		if order := compareRoughly(a, n, b, m, keep); order != 0 {
			return order
		}
	}
	return compareExactly(a, n, b, m)
}

// compareExactly compares as compareMeans does, if n and m have no common divisor. It divides both powers by powers of the number with the lesser exponent left, as Euclid's algorithm does: equal means stay what they are, and the numbers become short.
func compareExactly(a api.Frac, n int, b api.Frac, m int) int {
	for n > 1 && m > 1 {
		if n > m {
			a, n = numbers.Quotient(a, numbers.Power(b, n/m)), n%m
		} else {
			b, m = numbers.Quotient(b, numbers.Power(a, m/n)), m%n
		}
	}
	return frac.Cmp(numbers.Power(a, m), numbers.Power(b, n))
}

// divisor returns the greatest common divisor of two positive numbers.
func divisor(a, b int) int {
	for b > 0 {
		a, b = b, a%b
	}
	return a
}
