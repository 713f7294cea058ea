package frac

import "earshot/api"

// Sign returns -1, 0 or 1 for negative numbers, 0 and positive numbers.
func Sign(a api.Frac) int { return load(a).sign() }

// Cmp returns the Sign of a - b.
func Cmp(a, b api.Frac) int { return load(a).cmp(load(b)) }

// Best returns the index of the first one of the greatest numbers, -1 if there is none.
func Best(l ...api.Frac) int {
	return greatest(loadAll(l), func(a, b ratio) int { return a.cmp(b) })
}

// greatest returns the index of the first element that no other one exceeds by an order, -1 if there is none.
func greatest[T any](list []T, order func(a, b T) int) int {
	best := -1
	for i, x := range list {
		if best < 0 || order(x, list[best]) > 0 {
			best = i
		}
	}
	return best
}
