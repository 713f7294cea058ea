package frac

import (
	"strings"

	"earshot/api"
)

// Text returns a in lowest terms, like -3/2 or 7.
func Text(a api.Frac) string {
	r := load(a).reduce()
	s := r.n.text()
	if r.negative {
		s = "-" + s
	}
	if !r.d.isOne() {
		s += "/" + r.d.text()
	}
	return s
}

// Decimal returns a rounded to so many decimal places, halves away from 0; ErrArg if places is not from 0 to api.MaxPlaces.
func Decimal(a api.Frac, places int) (string, api.Errno) {
	if places < 0 || places > api.MaxPlaces {
		return "", api.ErrArg
	}
	r := load(a)
	units := r.n.mul(tenTo(places))
	rounded, _ := units.add(units).add(r.d).divide(r.d.add(r.d))
	digits := padded(rounded.text(), places+1)
	point := len(digits) - places
	s := digits[:point]
	if places > 0 {
		s += "." + digits[point:]
	}
	if r.negative && len(rounded) > 0 {
		s = "-" + s
	}
	return s, api.OK
}

// Parse reads a number like -3, -012.50 or 4/6; ErrLong for more than api.MaxDigits bytes, ErrText for what is no number, ErrZero for a denominator 0.
func Parse(s string) (api.Frac, api.Errno) {
	if len(s) > api.MaxDigits {
		return api.Frac{}, api.ErrLong
	}
	size, negative := strings.CutPrefix(s, "-")
	n, d, ok := parseSize(size)
	if !ok {
		return api.Frac{}, api.ErrText
	}
	if len(d) == 0 {
		return api.Frac{}, api.ErrZero
	}
	return signed(negative, n, d).store(), api.OK
}

// parseSize reads a number without a sign, and returns its numerator and denominator, which may be 0, and whether it is one.
func parseSize(s string) (n, d natural, ok bool) {
	if top, bottom, found := strings.Cut(s, "/"); found {
		n, okTop := readDigits(top)
		d, okBottom := readDigits(bottom)
		return n, d, okTop && okBottom
	}
	if front, back, found := strings.Cut(s, "."); found {
		n, ok := readDigits(front + back)
		return n, tenTo(len(back)), ok && front != "" && back != ""
	}
	n, ok = readDigits(s)
	return n, one(), ok
}
