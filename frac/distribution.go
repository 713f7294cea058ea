package frac

import "earshot/api"

// Distribution reports whether numbers are a distribution: none is negative, and their sum is 1.
func Distribution(l []api.Frac) bool {
	list := loadAll(l)
	sum := total(list...)
	return !anyNegative(list) && sum.n.cmp(sum.d) == 0
}

// Normalize returns the numbers, each divided by their sum; ErrArg if one of them is negative, ErrZero if the sum is 0.
func Normalize(l []api.Frac) ([]api.Frac, api.Errno) {
	list := loadAll(l)
	if anyNegative(list) {
		return nil, api.ErrArg
	}
	sum := total(list...).reduce()
	if sum.sign() == 0 {
		return nil, api.ErrZero
	}
	scale := sum.invert()
	parts := make([]api.Frac, len(list))
	for i, r := range list {
		parts[i] = r.times(scale).store()
	}
	return parts, api.OK
}

func anyNegative(list []ratio) bool {
	for _, r := range list {
		if r.negative {
			return true
		}
	}
	return false
}
