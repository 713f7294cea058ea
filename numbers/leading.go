package numbers

import (
	"cmp"
	"math/bits"

	"earshot/api"
)

// leading has the first 64 bits of a number that is not negative: the number is about head times 2 to the power exponent. The first bit of a head is 1, unless the number is 0.
type leading struct {
	head     uint64
	exponent int
}

// leadingOf returns the first bits of a number. They are wrong by less than one part in 2 to the power 62.
func leadingOf(a api.Frac) leading {
	n, d := firstBits(a.N), firstBits(bottom(a).N)
	if n.head < d.head {
		head, _ := bits.Div64(n.head, 0, d.head)
		return leading{head, n.exponent - d.exponent - 64}
	}
	head, _ := bits.Div64(n.head>>1, n.head<<63, d.head)
	return leading{head, n.exponent - d.exponent - 63}
}

// firstBits returns the first bits of an integer. Those behind them are cut off.
func firstBits(digits []uint32) leading {
	for len(digits) > 0 && digits[len(digits)-1] == 0 {
		digits = digits[:len(digits)-1]
	}
	var top [3]uint32
	for i := range min(len(digits), len(top)) {
		top[i] = digits[len(digits)-1-i]
	}
	head := uint64(top[0])<<32 | uint64(top[1])
	shift := bits.LeadingZeros32(top[0])
	return leading{head<<shift | uint64(top[2])>>(32-shift), 32*(len(digits)-2) - shift}
}

// times returns a times b, less wrong by the multiplication than one part in 2 to the power 63.
func (a leading) times(b leading) leading {
	head, rest := bits.Mul64(a.head, b.head)
	exponent := a.exponent + b.exponent + 64
	if head>>63 == 0 {
		head, exponent = head<<1|rest>>63, exponent-1
	}
	return leading{head, exponent}
}

// compare returns the sign of a - b, or 0 if the heads do not differ by more than some units.
func (a leading) compare(b leading, units uint64) int {
	a.head, b.head = a.head>>max(b.exponent-a.exponent, 0), b.head>>max(a.exponent-b.exponent, 0)
	if max(a.head, b.head)-min(a.head, b.head) <= units {
		return 0
	}
	return cmp.Compare(a.head, b.head)
}
