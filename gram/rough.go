package gram

import (
	"earshot/api"
	"earshot/frac"
)

// rough is a positive integer that is known roughly: by its top digits, and by how many digits are below them. Digits that were cut off are taken for 0.
type rough struct {
	top   []uint32
	below int
	cuts  int
}

// compareRoughly compares as compareMeans does, for canonical positive numbers, but it keeps only so many digits of each product, and returns 0 also if they are too few to tell.
func compareRoughly(a api.Frac, n int, b api.Frac, m int, keep int) int {
	left := power(a.N, m, keep).times(power(b.D, n, keep), keep)
	right := power(b.N, n, keep).times(power(a.D, m, keep), keep)
	switch {
	case left.exceeds(right):
		return 1
	case right.exceeds(left):
		return -1
	}
	return 0
}

// power returns a number with some digits, 1 if there are none, to the power n.
func power(digits []uint32, n, keep int) rough {
	product := rough{top: []uint32{1}}
	if len(digits) == 0 {
		return product
	}
	square := rough{top: digits}.cut(keep)
	for ; n > 0; n /= 2 {
		if n%2 == 1 {
			product = product.times(square, keep)
		}
		square = square.times(square, keep)
	}
	return product
}

func (a rough) times(b rough, keep int) rough {
	product := frac.Mul(api.Frac{N: a.top}, api.Frac{N: b.top})
	return rough{product.N, a.below + b.below, a.cuts + b.cuts}.cut(keep)
}

// cut cuts off digits so that no more are kept than that.
func (a rough) cut(keep int) rough {
	more := len(a.top) - keep
	if more <= 0 {
		return a
	}
	return rough{a.top[more:], a.below + more, a.cuts + 1}
}

// exceeds reports whether a is surely greater than b. A cut takes less than 1 from the lowest digit that is kept, so less than one part in 2 to the power 32 (keep - 1). That is less than 1 in the second lowest digit of a top. For each cut of b or of its factors, 2 in this digit are more than enough.
func (a rough) exceeds(b rough) bool {
	bound := frac.Add(api.Frac{N: b.top}, api.Frac{N: []uint32{0, uint32(2 * b.cuts)}})
	return frac.Cmp(longer(a.top, a.below-b.below), longer(bound.N, b.below-a.below)) > 0
}

// longer returns the integer with some digits, and with n more of them, which are 0, below if n is positive.
func longer(digits []uint32, n int) api.Frac {
	return api.Frac{N: append(make([]uint32, max(n, 0)), digits...)}
}
