// Package whole has the calculations with integers, and the checks of them, that several layers share.
package whole

// Within reports whether n is from least to greatest.
func Within(n, least, greatest int) bool { return least <= n && n <= greatest }

// AllWithin reports whether all elements are from least to greatest.
func AllWithin(x []int, least, greatest int) bool {
	for _, n := range x {
		if !Within(n, least, greatest) {
			return false
		}
	}
	return true
}

// Divide divides a by b, which is positive, with rounding: of two integers that are equally near, it returns the one that is farther from 0. 2 a + b must not overflow.
func Divide(a, b int) int {
	if a < 0 {
		return -Divide(-a, b)
	}
	return (2*a + b) / (2 * b)
}

// DivideUp returns the least integer that is not less than a / b, for a that is not negative and b that is positive.
func DivideUp(a, b int) int { return (a + b - 1) / b }
