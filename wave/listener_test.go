// Tests of P2.6 (Listen, Feed, Close, At, Segments).

package wave_test

import (
	"math"
	"math/rand"
	"slices"
	"testing"

	"earshot/api"
	"earshot/wave"
)

// gate returns the gate of the examples.
func gate() api.Gate {
	return api.Gate{Block: 1, High: 50, Low: 10, Rise: 2, Fall: 2, Lead: 0, Longest: 100}
}

// allTrue reports whether flags has so many elements from there on, all of them true.
func allTrue(flags []bool, from, length int) bool {
	return from+length <= len(flags) && !slices.Contains(flags[from:from+length], false)
}

// blocksOf returns which of the complete blocks are loud and which are quiet.
func blocksOf(x []int, g api.Gate) (loud, quiet []bool) {
	for block := range slices.Chunk(x, g.Block) {
		sum := 0
		for _, n := range block {
			sum += n * n
		}
		if len(block) == g.Block {
			loud, quiet = append(loud, sum >= g.High*g.Block), append(quiet, sum < g.Low*g.Block)
		}
	}
	return loud, quiet
}

// segmentsOf returns the segments of a list of samples, and whether the last one is only ended by closing, computed without this package: it looks for runs in all blocks at once.
func segmentsOf(x []int, g api.Gate) (list []api.Segment, open bool) {
	loud, quiet := blocksOf(x, g)
	behind := 0 // the first block behind the segment before
	for b := 0; b < len(loud); b++ {
		if !allTrue(loud, b, g.Rise) {
			continue
		}
		first := max(behind, b-g.Lead)
		behind = first + g.Longest
		for e := b + g.Rise; e+g.Fall <= first+g.Longest; e++ {
			if allTrue(quiet, e, g.Fall) {
				behind = e
				break
			}
		}
		if behind > len(loud) {
			return append(list, api.Segment{From: first * g.Block, To: len(x)}), true
		}
		list = append(list, api.Segment{From: first * g.Block, To: behind * g.Block})
		b = behind - 1
	}
	return list, false
}

// expectSegments checks that there is no error, and that got are the segments want.
func expectSegments(t *testing.T, what string, got []api.Segment, e api.Errno, want ...api.Segment) {
	t.Helper()
	if e != api.OK || !slices.Equal(got, want) {
		t.Errorf("%s: %v and error %d, not %v", what, got, e, want)
	}
}

// expectNoSegments checks that there is the error want, without segments.
func expectNoSegments(t *testing.T, what string, got []api.Segment, e, want api.Errno) {
	t.Helper()
	if e != want || len(got) > 0 {
		t.Errorf("%s: %v and error %d, not %d", what, got, e, want)
	}
}

// expectAt checks how many samples have arrived, and whether somebody speaks.
func expectAt(t *testing.T, what string, l *wave.Listener, arrived int, speaks bool) {
	t.Helper()
	if n, s := l.At(); n != arrived || s != speaks {
		t.Errorf("%s: at %d, %t, not %d, %t", what, n, s, arrived, speaks)
	}
}

// listen returns a listener for a gate that is valid.
func listen(t *testing.T, g api.Gate) *wave.Listener {
	t.Helper()
	l, e := wave.Listen(g)
	if e != api.OK || l == nil {
		t.Fatalf("Listen for %+v: error %d", g, e)
	}
	return l
}

// pattern returns samples that are loud for L, neither loud nor quiet for m, and quiet for q, with the gate of the examples.
func pattern(s string) []int {
	var x []int
	for _, c := range s {
		x = append(x, map[rune]int{'L': -9, 'm': 5, 'q': 1}[c])
	}
	return x
}

func TestSegmentsExamples(t *testing.T) {
	for _, c := range []struct {
		blocks string
		change func(g *api.Gate)
		want   []api.Segment
	}{
		{"qqLLLqqL", func(g *api.Gate) {}, []api.Segment{{From: 2, To: 5}}},
		{"", func(g *api.Gate) {}, nil},
		{"qqqqmmmm", func(g *api.Gate) {}, nil},
		{"LqLmLqL", func(g *api.Gate) {}, nil},
		{"LL", func(g *api.Gate) {}, []api.Segment{{From: 0, To: 2}}},
		{"qLLq", func(g *api.Gate) {}, []api.Segment{{From: 1, To: 4}}},
		{"LLqmqLqmmq", func(g *api.Gate) {}, []api.Segment{{From: 0, To: 10}}},
		{"LLqqLLqq", func(g *api.Gate) {}, []api.Segment{{From: 0, To: 2}, {From: 4, To: 6}}},
		{"qqqqLLqq", func(g *api.Gate) { g.Lead = 3 }, []api.Segment{{From: 1, To: 6}}},
		{"qqLLqq", func(g *api.Gate) { g.Lead = 3 }, []api.Segment{{From: 0, To: 4}}},
		{"LLqqLLqq", func(g *api.Gate) { g.Lead = 3 }, []api.Segment{{From: 0, To: 2}, {From: 2, To: 6}}},
		{"LLqqqqLLqq", func(g *api.Gate) { g.Lead = 3 }, []api.Segment{{From: 0, To: 2}, {From: 3, To: 8}}},
		{"LLLLLLL", func(g *api.Gate) { g.Longest = 4 }, []api.Segment{{From: 0, To: 4}, {From: 4, To: 7}}},
		{"LLLLL", func(g *api.Gate) { g.Longest = 4 }, []api.Segment{{From: 0, To: 4}}},
		{"LLLLLL", func(g *api.Gate) { g.Longest = 4 }, []api.Segment{{From: 0, To: 4}, {From: 4, To: 6}}},
		{"LLqqLL", func(g *api.Gate) { g.Longest = 4 }, []api.Segment{{From: 0, To: 2}, {From: 4, To: 6}}},
		{"LLmqqLL", func(g *api.Gate) { g.Longest = 4 }, []api.Segment{{From: 0, To: 4}, {From: 5, To: 7}}},
		{"mmmLLmLLm", func(g *api.Gate) { g.Lead, g.Longest = 2, 6 }, []api.Segment{{From: 1, To: 7}}},
		{"mmmLLmmLLm", func(g *api.Gate) { g.Lead, g.Longest = 2, 6 }, []api.Segment{{From: 1, To: 7}, {From: 7, To: 10}}},
		{"LqLmq", func(g *api.Gate) { g.Rise, g.Fall = 1, 1 }, []api.Segment{{From: 0, To: 1}, {From: 2, To: 4}}},
	} {
		g := gate()
		c.change(&g)
		got, e := wave.Segments(pattern(c.blocks), g)
		expectSegments(t, c.blocks, got, e, c.want...)
	}
}

// TestBlocks covers energies at the bounds, and blocks that are not complete.
func TestBlocks(t *testing.T) {
	g := api.Gate{Block: 3, High: 6, Low: 2, Rise: 1, Fall: 1, Lead: 0, Longest: 100}
	for _, c := range []struct {
		x    []int
		want []api.Segment
	}{
		{[]int{-4, 1, 1, 0, 0, 0}, []api.Segment{{From: 0, To: 3}}},          // 18 is loud
		{[]int{4, 1, 0, 0, 0, 0}, nil},                                       // 17 is not
		{[]int{3, 3, 0, 2, 1, 1, 0, 0, 0}, []api.Segment{{From: 0, To: 6}}},  // 6 is not quiet
		{[]int{3, 3, 0, -2, 0, 1, 0, 0, 0}, []api.Segment{{From: 0, To: 3}}}, // 5 is
		{[]int{9, 9}, nil},
		{[]int{9, 9, 9}, []api.Segment{{From: 0, To: 3}}},
		{[]int{9, 9, 9, 0, 0}, []api.Segment{{From: 0, To: 5}}},
		{[]int{9, 9, 9, 0, 0, 0, 9, 9}, []api.Segment{{From: 0, To: 3}}},
	} {
		got, e := wave.Segments(c.x, g)
		expectSegments(t, "Segments", got, e, c.want...)
	}
	loudest := api.Gate{Block: api.MaxFrame, High: 1 << 30, Low: 1 << 30, Rise: 1, Fall: 1, Lead: 0, Longest: 2}
	x := slices.Concat(slices.Repeat([]int{-32768}, api.MaxFrame), slices.Repeat([]int{32767}, api.MaxFrame), slices.Repeat([]int{-32768}, api.MaxFrame+7))
	got, e := wave.Segments(x, loudest)
	expectSegments(t, "the greatest energy", got, e, api.Segment{From: 0, To: 4096}, api.Segment{From: 8192, To: 12295})
	got, e = wave.Segments(make([]int, 5), api.Gate{Block: 1, Rise: 1, Fall: 1, Longest: 2})
	expectSegments(t, "silence that is loud", got, e, api.Segment{From: 0, To: 2}, api.Segment{From: 2, To: 4}, api.Segment{From: 4, To: 5})
}

// randomGate returns a gate with small bounds, so that everything happens often.
func randomGate(r *rand.Rand) api.Gate {
	g := api.Gate{Block: 1 + r.Intn(5), High: r.Intn(60), Rise: 1 + r.Intn(3), Fall: 1 + r.Intn(3), Lead: r.Intn(4)}
	g.Low = r.Intn(g.High + 1)
	g.Longest = g.Rise + g.Fall + g.Lead + r.Intn(6)
	return g
}

// randomSpeech returns samples that are loud for a while, then quiet, and so on.
func randomSpeech(r *rand.Rand, most int) []int {
	x := make([]int, r.Intn(most+1))
	level := 0
	for i := range x {
		if r.Intn(6) == 0 {
			level = r.Intn(10)
		}
		x[i] = (1 - 2*r.Intn(2)) * (level + r.Intn(2))
	}
	return x
}

func TestSegmentsRandomly(t *testing.T) {
	r := rand.New(rand.NewSource(10))
	several := 0
	for range 20000 {
		g, x := randomGate(r), randomSpeech(r, 150)
		want, _ := segmentsOf(x, g)
		got, e := wave.Segments(x, g)
		expectSegments(t, "Segments", got, e, want...)
		end := 0
		for _, s := range got {
			if s.From < end || s.To <= s.From || s.To > len(x) {
				t.Fatalf("%+v: %v of %d samples", g, got, len(x))
			}
			end = s.To
		}
		several += len(want) / 2
	}
	if several < 10000 {
		t.Errorf("only %d pairs of segments were seen", several)
	}
}

// TestPieces feeds the same samples in different pieces, empty ones among them.
func TestPieces(t *testing.T) {
	r := rand.New(rand.NewSource(11))
	for range 3000 {
		g, x := randomGate(r), randomSpeech(r, 120)
		l := listen(t, g)
		var got []api.Segment
		for at := 0; at < len(x); {
			n := min(r.Intn(1+[]int{1, 3, 40}[r.Intn(3)]), len(x)-at)
			ended, e := l.Feed(x[at : at+n]...)
			at += n
			got = append(got, ended...)
			want, open := segmentsOf(x[:at], g)
			if open {
				want = want[:len(want)-1]
			}
			expectSegments(t, "the segments that ended", got, e, want...)
			expectAt(t, "on the way", l, at, open)
		}
		last, e := l.Close()
		want, _ := segmentsOf(x, g)
		expectSegments(t, "all pieces", append(got, last...), e, want...)
		expectAt(t, "closed", l, len(x), false)
	}
}

// TestSpeech goes through the states of a listener.
func TestSpeech(t *testing.T) {
	g := gate()
	g.Block = 2
	l := listen(t, g)
	expectAt(t, "at first", l, 0, false)
	for _, c := range []struct {
		x      []int
		at     int
		speaks bool
		want   []api.Segment
	}{
		{nil, 0, false, nil}, {[]int{9, 9, 9}, 3, false, nil}, {[]int{9}, 4, true, nil}, {[]int{0, 0, 0}, 7, true, nil}, {[]int{}, 7, true, nil},
		{[]int{0}, 8, false, []api.Segment{{From: 0, To: 4}}},
		{[]int{9, 9, 9, 9, 0, 0, 0, 0, 9, 9, 9, 9, 0}, 21, true, []api.Segment{{From: 8, To: 12}}},
		{[]int{0, 0, 0, 9}, 25, false, []api.Segment{{From: 16, To: 20}}},
		{[]int{9, 9, 9, 9}, 29, true, nil},
	} {
		got, e := l.Feed(c.x...)
		expectSegments(t, "Feed", got, e, c.want...)
		expectAt(t, "Feed", l, c.at, c.speaks)
	}
	got, e := l.Close()
	expectSegments(t, "Close", got, e, api.Segment{From: 24, To: 29})
	expectAt(t, "Close", l, 29, false)
}

// TestClose covers what a listener may be in when it is closed, and what is possible afterwards.
func TestClose(t *testing.T) {
	for _, c := range []struct {
		blocks string
		want   []api.Segment
	}{{"", nil}, {"qqq", nil}, {"qqL", nil}, {"LLqq", nil}, {"LL", []api.Segment{{From: 0, To: 2}}}, {"qLLq", []api.Segment{{From: 1, To: 4}}}, {"LLqqLLm", []api.Segment{{From: 4, To: 7}}}} {
		l := listen(t, gate())
		l.Feed(pattern(c.blocks)...)
		got, e := l.Close()
		expectSegments(t, "Close after "+c.blocks, got, e, c.want...)
		for range 2 {
			got, e = l.Close()
			expectNoSegments(t, "Close again", got, e, api.ErrState)
			got, e = l.Feed(9, 9, 9, 0, 0)
			expectNoSegments(t, "Feed", got, e, api.ErrState)
			got, e = l.Feed()
			expectNoSegments(t, "Feed of nothing", got, e, api.ErrState)
			got, e = l.Feed(32768)
			expectNoSegments(t, "Feed of no sample", got, e, api.ErrArg)
			got, e = l.Feed(tooLong()...)
			expectNoSegments(t, "Feed of too many", got, e, api.ErrLong)
			expectAt(t, "closed", l, len(c.blocks), false)
		}
	}
}

// TestNoListener covers a listener that is nil or zero: its error comes first.
func TestNoListener(t *testing.T) {
	for _, l := range []*wave.Listener{nil, {}, new(wave.Listener)} {
		for range 2 {
			for _, x := range [][]int{nil, {1}, {32768}, tooLong()} {
				got, e := l.Feed(x...)
				expectNoSegments(t, "Feed", got, e, api.ErrNil)
			}
			got, e := l.Close()
			expectNoSegments(t, "Close", got, e, api.ErrNil)
			expectAt(t, "no listener", l, 0, false)
		}
	}
}

// TestFeedErrors checks that a call of Feed with an error changes nothing.
func TestFeedErrors(t *testing.T) {
	g := gate()
	g.Block = 2
	x := []int{9, 9, 9, 9, 0, 0, 9, 9, 9, 0, 0, 0, 0, 9}
	l := listen(t, g)
	var got []api.Segment
	for i, sample := range x {
		at, speaks := l.At()
		for _, wrong := range [][]int{{32768}, {9, 9, 9, 9, 0, 0, 0, 0, -32769}, {math.MaxInt, 1}, {1, math.MinInt, 1}} {
			ended, e := l.Feed(wrong...)
			expectNoSegments(t, "no sample", ended, e, api.ErrArg)
		}
		for _, long := range [][]int{make([]int, api.MaxSamples+1), tooLong()} {
			ended, e := l.Feed(long...)
			expectNoSegments(t, "too many samples", ended, e, api.ErrLong)
		}
		expectAt(t, "nothing arrived", l, at, speaks)
		ended, e := l.Feed(sample)
		if e != api.OK {
			t.Fatalf("sample %d: error %d", i, e)
		}
		got = append(got, ended...)
	}
	last, e := l.Close()
	want, _ := segmentsOf(x, g)
	expectSegments(t, "the segments", append(got, last...), e, want...)
	ended, e := listen(t, gate()).Feed(-32768, 32767, 0)
	expectSegments(t, "the least and the greatest sample", ended, e)
}

// TestManySamples covers the bound of what a listener receives: 2^31 samples, but not one more.
func TestManySamples(t *testing.T) {
	l := listen(t, api.Gate{Block: 4096, High: 50, Low: 10, Rise: 2, Fall: 2, Longest: 100})
	piece, rest := make([]int, api.MaxSamples), 1<<31
	for ; rest >= len(piece); rest -= len(piece) {
		if got, e := l.Feed(piece...); e != api.OK || len(got) > 0 {
			t.Fatalf("%v and error %d, with %d samples left", got, e, rest)
		}
	}
	got, e := l.Feed(piece[:rest+1]...)
	expectNoSegments(t, "one too many", got, e, api.ErrLong)
	expectAt(t, "one too many", l, 1<<31-rest, false)
	got, e = l.Feed(slices.Repeat([]int{9}, rest)...)
	expectSegments(t, "all", got, e)
	expectAt(t, "all", l, 1<<31, true)
	got, e = l.Feed()
	expectSegments(t, "no more", got, e)
	got, e = l.Feed(1)
	expectNoSegments(t, "one more", got, e, api.ErrLong)
	got, e = l.Feed(32768)
	expectNoSegments(t, "no sample", got, e, api.ErrArg)
	got, e = l.Close()
	expectSegments(t, "Close", got, e, api.Segment{From: (1<<31 - rest + 4095) / 4096 * 4096, To: 1 << 31})
	got, e = l.Feed(1)
	expectNoSegments(t, "closed", got, e, api.ErrState)
}

// gates returns gates that are as they have to be, at the edges.
func gates() []api.Gate {
	return []api.Gate{
		gate(), {Block: 1, Rise: 1, Fall: 1, Longest: 2}, {Block: api.MaxFrame, High: 1 << 30, Low: 1 << 30, Rise: 1000, Fall: 1000, Lead: 1000, Longest: 100000},
		{Block: 7, High: 5, Low: 5, Rise: 1, Fall: 3, Lead: 2, Longest: 6}, {Block: 1, High: 1 << 30, Rise: 1000, Fall: 1000, Lead: 1000, Longest: 3000},
	}
}

// wrongGates returns gates of which one number is out of its range.
func wrongGates() []api.Gate {
	var list []api.Gate
	for _, n := range []int{-1, math.MinInt, math.MaxInt, 1<<30 + 1} {
		for _, change := range []func(g *api.Gate){
			func(g *api.Gate) { g.Block = n }, func(g *api.Gate) { g.High = n }, func(g *api.Gate) { g.Low = n }, func(g *api.Gate) { g.Rise = n },
			func(g *api.Gate) { g.Fall = n }, func(g *api.Gate) { g.Lead = n }, func(g *api.Gate) { g.Longest = n },
		} {
			for _, g := range gates() {
				change(&g)
				list = append(list, g)
			}
		}
	}
	return append(list, api.Gate{},
		api.Gate{Block: 0, Rise: 1, Fall: 1, Longest: 2}, api.Gate{Block: 4097, Rise: 1, Fall: 1, Longest: 2}, api.Gate{Block: 1, High: 4, Low: 5, Rise: 1, Fall: 1, Longest: 2},
		api.Gate{Block: 1, Rise: 0, Fall: 1, Longest: 2}, api.Gate{Block: 1, Rise: 1001, Fall: 1, Longest: 2000}, api.Gate{Block: 1, Rise: 1, Fall: 0, Longest: 2},
		api.Gate{Block: 1, Rise: 1, Fall: 1001, Longest: 2000}, api.Gate{Block: 1, Rise: 1, Fall: 1, Lead: 1001, Longest: 2000}, api.Gate{Block: 1, Rise: 1, Fall: 1, Longest: 1},
		api.Gate{Block: 1, Rise: 2, Fall: 3, Lead: 4, Longest: 8}, api.Gate{Block: 1, Rise: 1, Fall: 1, Longest: 100001}, api.Gate{Block: 1, Rise: math.MaxInt, Fall: math.MaxInt, Longest: 2})
}

func TestGates(t *testing.T) {
	for _, g := range gates() {
		l := listen(t, g)
		expectAt(t, "a new listener", l, 0, false)
		got, e := l.Close()
		expectSegments(t, "a listener that heard nothing", got, e)
		got, e = wave.Segments(nil, g)
		expectSegments(t, "nothing", got, e)
	}
	for _, g := range wrongGates() {
		if l, e := wave.Listen(g); e != api.ErrArg || l != nil {
			t.Errorf("Listen for %+v: error %d", g, e)
		}
		for _, x := range [][]int{nil, {9, 9, 9}, {32768}} {
			got, e := wave.Segments(x, g)
			expectNoSegments(t, "Segments", got, e, api.ErrArg)
		}
		got, e := wave.Segments(tooLong(), g)
		expectNoSegments(t, "Segments of too many samples", got, e, api.ErrLong)
	}
}

func TestSegmentsErrors(t *testing.T) {
	for _, x := range [][]int{{32768}, {0, -32769}, {9, 9, 9, 0, 0, 0, math.MaxInt}, {math.MinInt, 0}} {
		got, e := wave.Segments(x, gate())
		expectNoSegments(t, "no sample", got, e, api.ErrArg)
	}
	for _, x := range [][]int{make([]int, api.MaxSamples+1), tooLong()} {
		got, e := wave.Segments(x, gate())
		expectNoSegments(t, "too many samples", got, e, api.ErrLong)
	}
	got, e := wave.Segments(slices.Repeat([]int{9}, api.MaxSamples), api.Gate{Block: 2, High: 50, Low: 10, Rise: 1, Fall: 1, Longest: 100000})
	expectSegments(t, "as many samples as possible", got, e, api.Segment{From: 0, To: api.MaxSamples})
}
