// Tests of P0.1, P0.2 and the rules R1 to R8.

package wave_test

import (
	"math/rand"
	"slices"
	"testing"

	"earshot/api"
	"earshot/wave"
)

// result is what a function returns for some arguments: its lists and its error.
type result struct {
	what  string
	lists [][]int
	e     api.Errno
}

// equal reports whether two results are the same.
func equal(a, b result) bool {
	return a.e == b.e && slices.EqualFunc(a.lists, b.lists, slices.Equal[[]int])
}

// resultsOf returns the results of all functions that return lists, for a list of samples and a number.
func resultsOf(x []int, n int) []result {
	var list []result
	add := func(what string, e api.Errno, lists ...[]int) { list = append(list, result{what, lists, e}) }
	r := api.Recording{Rate: 48, Samples: x}
	b, e := wave.Pack(r)
	add("Pack", e, numbersOf(b))
	s, e := wave.Unpack(b)
	add("Unpack", e, s.Samples)
	s, e = wave.Resample(r, n, n)
	add("Resample to the same rate", e, s.Samples)
	s, e = wave.Resample(r, n, 16)
	add("Resample", e, s.Samples)
	s, e = wave.Clip(r, api.Segment{From: 0, To: len(x)})
	add("Clip of all", e, s.Samples)
	s, e = wave.Clip(r, api.Segment{From: n, To: len(x)})
	add("Clip", e, s.Samples)
	for _, num := range []int{0, 1, n} {
		y, e := wave.Emphasize(x, num, n)
		add("Emphasize", e, y)
		y, e = wave.Restore(x, num, n)
		add("Restore", e, y)
	}
	for _, step := range []int{1, n, len(x)} {
		for _, pad := range []bool{false, true} {
			frames, e := wave.Frames(x, n, step, pad)
			add("Frames", e, frames...)
		}
	}
	for _, kind := range kinds() {
		y, e := wave.Window(kind, n)
		add("Window", e, y)
		y, e = wave.Weigh(x, kind)
		add("Weigh", e, y)
	}
	return list
}

// numbersOf returns bytes as numbers.
func numbersOf(b []byte) []int {
	var x []int
	for _, n := range b {
		x = append(x, int(n))
	}
	return x
}

// TestMemory checks that arguments stay as they are, and that results share no memory with arguments, nor with each other (rule R4); equal calls have equal results afterwards (rule R8).
func TestMemory(t *testing.T) {
	r := rand.New(rand.NewSource(12))
	for i := range 300 {
		x, n := randomSamples(r, 40), 1+i%16
		given := slices.Clone(x)
		results := resultsOf(x, n)
		want := resultsOf(slices.Clone(x), n)
		if !slices.Equal(x, given) {
			t.Fatalf("%v has become %v", given, x)
		}
		spoil(x)
		for i, got := range results {
			if !equal(got, want[i]) {
				t.Fatalf("%s shares memory with its argument", got.what)
			}
			for j, list := range got.lists {
				spoil(list)
				if !slices.EqualFunc(got.lists[j+1:], want[i].lists[j+1:], slices.Equal[[]int]) {
					t.Fatalf("lists of %s share memory", got.what)
				}
			}
		}
		if !slices.EqualFunc(resultsOf(given, n), want, equal) {
			t.Fatalf("results for %v and %d are different", given, n)
		}
	}
}

// TestMemoryOfMeasures checks that arguments stay as they are where only numbers and segments are returned.
func TestMemoryOfMeasures(t *testing.T) {
	x := []int{0, -9, 9, 9, 0, 1, -1, 5}
	given := slices.Clone(x)
	wave.Energy(x)
	wave.Changes(x)
	wave.Peak(x)
	wave.Valid(api.Recording{Rate: 1, Samples: x})
	wave.Segments(x, gate())
	listen(t, gate()).Feed(x...)
	b := bytesOf(api.Recording{Rate: 1, Samples: x})
	text := slices.Clone(b)
	wave.Unpack(b)
	if !slices.Equal(x, given) || !slices.Equal(b, text) {
		t.Errorf("%v and %x have become %v and %x", given, text, x, b)
	}
}

// TestMemoryOfListeners checks that a listener keeps nothing of its arguments and results, and that two of them are independent.
func TestMemoryOfListeners(t *testing.T) {
	r := rand.New(rand.NewSource(13))
	for range 500 {
		g, x := randomGate(r), randomSpeech(r, 100)
		want, _ := segmentsOf(x, g)
		l, other := listen(t, g), listen(t, g)
		var got []api.Segment
		for piece := range slices.Chunk(x, 1+r.Intn(9)) {
			piece = slices.Clone(piece)
			ended, e := l.Feed(piece...)
			if e != api.OK {
				t.Fatalf("Feed: error %d", e)
			}
			got = append(got, ended...)
			spoil(piece)
			for i := range ended {
				ended[i] = api.Segment{From: -1, To: -1}
			}
			other.Feed(randomSpeech(r, 20)...)
		}
		last, e := l.Close()
		expectSegments(t, "the segments", append(got, last...), e, want...)
	}
}

// TestNilAndEmpty checks that nil and empty lists are the same value (rule R3).
func TestNilAndEmpty(t *testing.T) {
	for n := 1; n <= 3; n++ {
		if !slices.EqualFunc(resultsOf(nil, n), resultsOf([]int{}, n), equal) {
			t.Errorf("results for nothing and %d", n)
		}
	}
	if !wave.Valid(api.Recording{Rate: 1, Samples: []int{}}) || !wave.Valid(api.Recording{Rate: 1}) {
		t.Error("a recording may be empty")
	}
	for _, b := range [][]byte{nil, {}} {
		r, e := wave.Unpack(b)
		expectNoRecording(t, "Unpack of nothing", r, e, api.ErrText)
	}
}

// TestAnyArguments checks that functions return for all arguments, with zero values beside errors (P0.1, rules R2 and R5).
func TestAnyArguments(t *testing.T) {
	check := func(what string, e api.Errno, zero bool) {
		t.Helper()
		if e != api.OK && e != api.ErrArg && e != api.ErrLong || e != api.OK && !zero {
			t.Errorf("%s: error %d, zero %t", what, e, zero)
		}
	}
	for _, m := range edgeInts() {
		for _, n := range edgeInts() {
			x := []int{m, n, 1}
			y, e := wave.Emphasize(x, m, n)
			check("Emphasize", e, len(y) == 0)
			y, e = wave.Restore(x, m, n)
			check("Restore", e, len(y) == 0)
			frames, e := wave.Frames(x, m, n, true)
			check("Frames", e, len(frames) == 0)
			frames, e = wave.Frames(x, m, n, false)
			check("Frames", e, len(frames) == 0)
			y, e = wave.Window(api.WindowKind(m), n)
			check("Window", e, len(y) == 0)
			y, e = wave.Weigh(x, api.WindowKind(m))
			check("Weigh", e, len(y) == 0)
			r, e := wave.Resample(api.Recording{Rate: m, Samples: []int{n}}, n, m)
			check("Resample", e, r.Rate == 0 && len(r.Samples) == 0)
			r, e = wave.Clip(api.Recording{Rate: 1, Samples: x}, api.Segment{From: m, To: n})
			check("Clip", e, r.Rate == 0 && len(r.Samples) == 0)
			b, e := wave.Pack(api.Recording{Rate: m, Samples: x})
			check("Pack", e, len(b) == 0)
			k, e := wave.Energy(x)
			check("Energy", e, k == 0)
			k, e = wave.Changes(x)
			check("Changes", e, k == 0)
			k, e = wave.Peak(x)
			check("Peak", e, k == 0)
			l, e := wave.Listen(api.Gate{Block: m, High: n, Low: m, Rise: n, Fall: m, Lead: n, Longest: m})
			check("Listen", e, l == nil)
		}
	}
}
