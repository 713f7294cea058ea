package wave

import "earshot/api"

// The bytes of a recording: the mark, the rate and the number of samples, the samples, and the sum.
const (
	mark       = "EAR1"
	numberSize = 4
	sampleSize = 2
	headSize   = len(mark) + 2*numberSize
	sumSize    = numberSize
	mostBytes  = 500000
	sumFactor  = 65599
)

// Valid reports whether r is a recording.
func Valid(r api.Recording) bool { return checkRecording(r) == api.OK }

// Pack returns the bytes of a recording; ErrLong for too many samples, ErrArg if r is no recording.
func Pack(r api.Recording) ([]byte, api.Errno) {
	if e := checkRecording(r); e != api.OK {
		return nil, e
	}
	b := []byte(mark)
	write := func(n, size int) {
		for range size {
			b = append(b, byte(n))
			n >>= 8
		}
	}
	write(r.Rate, numberSize)
	write(len(r.Samples), numberSize)
	for _, sample := range r.Samples {
		write(sample, sampleSize)
	}
	write(int(sumOf(b)), sumSize)
	return b, api.OK
}

// sumOf returns the sum that is stored behind the bytes b.
func sumOf(b []byte) uint32 {
	sum := uint32(1)
	for _, x := range b {
		sum = sumFactor*sum + uint32(x) + 1
	}
	return sum
}

// Unpack returns the recording whose bytes are given; ErrLong for too many bytes, ErrText if there is no such recording.
func Unpack(b []byte) (api.Recording, api.Errno) {
	if len(b) > mostBytes {
		return api.Recording{}, api.ErrLong
	}
	if !wellFormed(b) {
		return api.Recording{}, api.ErrText
	}
	r := api.Recording{Rate: read(b[len(mark):], numberSize)}
	for from := headSize; from < len(b)-sumSize; from += sampleSize {
		r.Samples = append(r.Samples, int(int16(read(b[from:], sampleSize))))
	}
	if !Valid(r) {
		return api.Recording{}, api.ErrText
	}
	return r, api.OK
}

// wellFormed reports whether b begins with the mark, ends with its sum, and has the room for as many samples as it says.
func wellFormed(b []byte) bool {
	if len(b) < headSize+sumSize || string(b[:len(mark)]) != mark {
		return false
	}
	end := len(b) - sumSize
	count := read(b[len(mark)+numberSize:], numberSize)
	return end-headSize == count*sampleSize && read(b[end:], sumSize) == int(sumOf(b[:end]))
}

// read returns the number that the first bytes of b, so many as size says, stand for.
func read(b []byte, size int) int {
	n := 0
	for i, x := range b[:size] {
		n |= int(x) << (8 * i)
	}
	return n
}
