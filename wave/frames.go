package wave

import (
	"iter"

	"earshot/api"
	"earshot/whole"
)

// mostElements is the greatest number of elements that all frames have together.
const mostElements = 4000000

// Frames returns the frames of a list of values; ErrLong also if they have too many elements together.
func Frames(x []int, size, step int, pad bool) ([][]int, api.Errno) {
	if e := checkValues(x); e != api.OK {
		return nil, e
	}
	if !whole.Within(size, 1, api.MaxFrame) || !whole.Within(step, 1, api.MaxFrame) {
		return nil, api.ErrArg
	}
	count := frameCount(len(x), size, step, pad)
	if count*size > mostElements {
		return nil, api.ErrLong
	}
	list := make([][]int, 0, count)
	for frame := range frames(x, size, step, count) {
		list = append(list, frame)
	}
	return list, api.OK
}

// frameCount returns how many frames n elements have.
func frameCount(n, size, step int, pad bool) int {
	if pad {
		return whole.DivideUp(n, step)
	}
	if n < size {
		return 0
	}
	return (n-size)/step + 1
}

// frames goes through so many frames as count says, each one in new memory, with zeros behind the end of x.
func frames(x []int, size, step, count int) iter.Seq[[]int] {
	return func(yield func([]int) bool) {
		for t := range count {
			frame := make([]int, size)
			copy(frame, x[t*step:])
			if !yield(frame) {
				return
			}
		}
	}
}
