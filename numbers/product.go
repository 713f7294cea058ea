package numbers

import (
	"cmp"
	"slices"

	"earshot/api"
	"earshot/frac"
	"earshot/lists"
)

// Factor is a number that is not negative, as a factor of products.
type Factor struct {
	exact api.Frac
	first leading
}

// FactorOf returns a factor. It refers to the memory of a, which has to be in lowest terms if Exact will be called for a product of this factor.
func FactorOf(a api.Frac) *Factor { return &Factor{a, leadingOf(a)} }

// Exact returns the number. It shares the memory of the factor.
func (f *Factor) Exact() api.Frac { return f.exact }

// equal reports whether two factors look alike. Then they are equal.
func (f *Factor) equal(g *Factor) bool {
	return f == g || slices.Equal(f.exact.N, g.exact.N) && slices.Equal(f.exact.D, g.exact.D)
}

// Product is a product of factors. Only its first bits are computed, and the factors are kept: to compare two products, these bits nearly always suffice, and otherwise only those factors are multiplied in which the products differ. The zero Product is the number 0.
type Product struct {
	first leading
	last  *link
}

// link is a list of factors, the last one first. Lists share their beginnings.
type link struct {
	before *link
	factor *Factor
	length int
}

// size returns the number of factors of a list.
func (l *link) size() int {
	if l == nil {
		return 0
	}
	return l.length
}

// One returns the product of no factors, 1.
func One() Product { return Product{first: leading{1 << 63, -63}} }

// Times returns p times some factors.
func (p Product) Times(factors ...*Factor) Product {
	for _, f := range factors {
		p = Product{p.first.times(f.first), &link{before: p.last, factor: f, length: p.last.size() + 1}}
	}
	return p
}

// Compare returns the sign of p - q.
func (p Product) Compare(q Product) int {
	if p.first.head == 0 || q.first.head == 0 {
		return cmp.Compare(p.first.head, q.first.head)
	}
	// Each factor makes a head wrong by less than one part in 2 to the power 61, which is less than 8 units; twice as many leave room for the rest that is cut off when heads are compared.
	units := 16 * uint64(p.last.size()+q.last.size()+1)
	if order := p.first.compare(q.first, units); order != 0 {
		return order
	}
	return p.last.compare(q.last)
}

// compare compares the products of two lists. It leaves out the factors that both have at the same place, above all those of the beginning that they share.
func (l *link) compare(m *link) int {
	var mine, others []api.Frac
	for l != m {
		longer := l.size() - m.size()
		if longer == 0 && l.factor.equal(m.factor) {
			l, m = l.before, m.before
			continue
		}
		if longer >= 0 {
			mine, l = append(mine, l.factor.exact), l.before
		}
		if longer <= 0 {
			others, m = append(others, m.factor.exact), m.before
		}
	}
	return frac.Cmp(across(mine, others), across(others, mine))
}

// across returns the product of the numerators of some numbers and of the denominators of others: an integer, so that nothing has to be brought into lowest terms.
func across(over, under []api.Frac) api.Frac {
	return ProductOf(slices.Concat(lists.Map(over, top), lists.Map(under, bottom)))
}

// Exact returns the product, in new memory. It takes little time also if the first factor is a long number.
func (p Product) Exact() api.Frac {
	if p.first.head == 0 {
		return api.Frac{}
	}
	exact := frac.Of(1)
	var rest []api.Frac
	for l := p.last; l != nil; l = l.before {
		if l.before == nil {
			exact = l.factor.exact
		} else {
			rest = append(rest, l.factor.exact)
		}
	}
	return lengthen(exact, ProductOf(rest))
}

// lengthen returns x y, for numbers in lowest terms that are not negative. It takes little time if x is long and y is short: then there is no common divisor of two long numbers to be found.
func lengthen(x, y api.Frac) api.Frac {
	a, b := Quotient(top(x), bottom(y)), Quotient(top(y), bottom(x))
	n, d := frac.Mul(top(a), top(b)), frac.Mul(bottom(a), bottom(b))
	if frac.Cmp(d, frac.Of(1)) == 0 {
		return n
	}
	return api.Frac{N: n.N, D: d.N}
}

// top returns the numerator of a, as it is written.
func top(a api.Frac) api.Frac { return api.Frac{N: a.N} }

// bottom returns the denominator of a, as it is written.
func bottom(a api.Frac) api.Frac {
	if len(a.D) == 0 || slices.Max(a.D) == 0 {
		return frac.Of(1)
	}
	return api.Frac{N: a.D}
}
