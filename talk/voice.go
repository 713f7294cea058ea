package talk

import (
	"math/bits"

	"earshot/api"
	"earshot/frac"
	"earshot/lists"
	"earshot/numbers"
)

// voice is what the center of a group of vectors is made of: the sum of the vectors, and how many they are.
type voice struct {
	sum  []int
	size int
}

// voiceOf returns the voice of a group, which has vectors.
func voiceOf(vectors [][]int) voice {
	v := voice{vectors[0], 1}
	for _, x := range vectors[1:] {
		v = v.with(voice{x, 1})
	}
	return v
}

// with returns the voice of two groups that become one.
func (v voice) with(w voice) voice {
	return voice{lists.Combine(v.sum, w.sum, func(x, y int) int { return x + y }), v.size + w.size}
}

// gap returns the gap of two groups, which together have at most api.MaxVectors vectors. The difference of two components of centers a / n and b / m is (a m - b n) / (n m).
func (v voice) gap(w voice) api.Frac {
	var high, low uint64 // 128 bits: there are at most 64 squares of numbers less than 2^48
	for i, a := range v.sum {
		d := a*w.size - w.sum[i]*v.size
		top, bottom := bits.Mul64(uint64(max(d, -d)), uint64(max(d, -d)))
		var carry uint64
		low, carry = bits.Add64(low, bottom, 0)
		high += top + carry
	}
	squares := api.Frac{N: []uint32{uint32(low), uint32(low >> 32), uint32(high), uint32(high >> 32)}}
	return numbers.Quotient(squares, frac.Of(v.size*w.size*(v.size+w.size)))
}
