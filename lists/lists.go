// Package lists makes new lists of the elements of others, for several layers.
package lists

// Map returns what f makes of each element.
func Map[T, U any](list []T, f func(x T) U) []U {
	results := make([]U, len(list))
	for i, x := range list {
		results[i] = f(x)
	}
	return results
}

// Combine returns what f makes of the elements of a and b, which are equally many.
func Combine[T any](a, b []T, f func(x, y T) T) []T {
	list := make([]T, len(a))
	for i, x := range a {
		list[i] = f(x, b[i])
	}
	return list
}

// Columns returns the columns of rows as rows, in new memory. There is at least one row, and all have the same length.
func Columns[T any](rows [][]T) [][]T {
	columns := make([][]T, len(rows[0]))
	for j := range columns {
		columns[j] = Map(rows, func(row []T) T { return row[j] })
	}
	return columns
}
