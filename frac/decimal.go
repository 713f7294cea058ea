package frac

import (
	"slices"
	"strconv"
	"strings"
)

// A chunk is as many decimal digits as a digit of 64 bits can always hold.
const (
	chunkPlaces = 19
	chunkScale  = 10000000000000000000
)

// tenTo returns 10 to the power n.
func tenTo(n int) natural { return natural{10}.pow(n) }

// text returns the decimal digits of a.
func (a natural) text() string {
	if len(a) == 0 {
		return "0"
	}
	var chunks []string
	for rest := slices.Clone(a); len(rest) > 0; rest = rest.trim() {
		chunks = append(chunks, strconv.FormatUint(rest.shrink(chunkScale), 10))
	}
	slices.Reverse(chunks)
	for i, chunk := range chunks[1:] {
		chunks[i+1] = padded(chunk, chunkPlaces)
	}
	return strings.Join(chunks, "")
}

// padded returns s with zeros before it, until it has n bytes.
func padded(s string, n int) string {
	return strings.Repeat("0", max(n-len(s), 0)) + s
}

// readDigits returns the number with the decimal digits s, and whether s consists of one or more of them.
func readDigits(s string) (natural, bool) {
	var a natural
	chunk, scale := uint64(0), uint64(1)
	for _, c := range s {
		if c < '0' || c > '9' {
			return nil, false
		}
		chunk, scale = 10*chunk+uint64(c-'0'), 10*scale
		if scale == chunkScale {
			a = a.behind(scale, chunk)
			chunk, scale = 0, 1
		}
	}
	return a.behind(scale, chunk), s != ""
}

// behind returns a times scale plus chunk.
func (a natural) behind(scale, chunk uint64) natural {
	sum := make(natural, len(a)+1)
	sum[0] = chunk
	sum[len(a)] += sum[:len(a)].increaseTimes(a, scale)
	return sum.trim()
}
