// Package lists makes new lists of the elements of others, for several layers.
package lists

// Map returns what f makes of each element.
func Map[T, U any](list []T, f func(x T) U) []U {
	results := make([]U, len(list))
	for i, x := range list {
		results[i] = f(x)
	}
	return results
}

// Combine returns what f makes of the elements of a and b, which are equally many.
func Combine[T any](a, b []T, f func(x, y T) T) []T {
	list := make([]T, len(a))
	for i, x := range a {
		list[i] = f(x, b[i])
	}
	return list
}
