// Tests of P7.3: the Decoder.

package decode_test

import (
	"math/rand"
	"slices"
	"testing"

	"earshot/api"
	"earshot/decode"
)

// made is what New returns, which must not fail.
func made(t *testing.T, x api.Task, b api.Beam) *decode.Decoder {
	t.Helper()
	d, e := decode.New(x, b)
	if e != api.OK || d == nil {
		t.Fatalf("New: error %d", e)
	}
	return d
}

// state writes all that a decoder tells.
func state(t *testing.T, d *decode.Decoder) (string, []int, int) {
	t.Helper()
	r, e := d.Report()
	if e != api.OK {
		t.Fatalf("Report: error %d", e)
	}
	return showReport(r), d.Sure(), d.Frames()
}

// TestPieces compares the reports of decoders that are fed in pieces with those of Decode and with the definition.
func TestPieces(t *testing.T) {
	r := rand.New(rand.NewSource(6))
	sure := 0
	for range 300 {
		x, b := randomTask(t, r, small), randomBeam(r)
		o := randomRecording(r, x, r.Intn(8))
		d := made(t, x, b)
		for from := 0; ; {
			report, words, frames := state(t, d)
			want := searched(x, b, o[:from])
			if report != want.report() || report != showReport(decoded(t, x, b, o[:from])) {
				t.Fatalf("%v of %v: %s, not %s", from, o, report, want.report())
			}
			if !slices.Equal(words, want.sure()) || frames != from {
				t.Fatalf("%v of %v: sure of %v, not %v, after %d frames", from, o, words, want.sure(), frames)
			}
			sure += len(words)
			if from == len(o) {
				break
			}
			to := from + r.Intn(len(o)-from+1)
			if e := d.Feed(o[from:to]...); e != api.OK {
				t.Fatalf("Feed: error %d", e)
			}
			from = to
		}
	}
	if sure < 100 {
		t.Errorf("only %d words were sure", sure)
	}
}

// TestSure checks that words that are sure stay at the beginning of later words that are sure, as long as there are tokens, and of the words of later reports that have a result.
func TestSure(t *testing.T) {
	r := rand.New(rand.NewSource(7))
	longer := 0
	for range 300 {
		x := randomTask(t, r, small)
		d := made(t, x, randomBeam(r))
		var sure []int
		for _, symbol := range randomRecording(r, x, 10) {
			if e := d.Feed(symbol); e != api.OK {
				t.Fatalf("Feed: error %d", e)
			}
			next := d.Sure()
			report, _ := d.Report()
			if report.Found && shared(sure, report.Words) < len(sure) || report.Found && shared(next, report.Words) < len(next) {
				t.Fatalf("sure of %v and %v, then %v", sure, next, report.Words)
			}
			if len(next) > 0 {
				if shared(sure, next) < len(sure) {
					t.Fatalf("sure of %v, then of %v", sure, next)
				}
				sure = next
				longer++
			}
		}
	}
	if longer < 100 {
		t.Errorf("sure only %d times", longer)
	}
}

// shared returns how many elements at the beginning of two lists are equal.
func shared(a, b []int) int {
	n := 0
	for n < len(a) && n < len(b) && a[n] == b[n] {
		n++
	}
	return n
}

// TestSureExamples checks tokens whose words differ from the first one on, or end.
func TestSureExamples(t *testing.T) {
	// The words 1 and 2 begin alike, but only 2 goes on with the symbol 1; the word 3 has a symbol of its own.
	x := taskOf(t, []api.Model{single(t, "0", "1", "1 0 0"), single(t, "0", "1", "0 1 0"), single(t, "1/2", "1/2", "0 0 1")}, []int{1}, []int{1, 2}, []int{3})
	for _, c := range []struct {
		o    []int
		want []int
	}{
		{nil, nil}, {[]int{0}, nil}, {[]int{0, 1}, []int{2}}, {[]int{0, 0}, []int{1}}, {[]int{2, 2}, []int{3}}, {[]int{2, 0}, []int{3}}, {[]int{0, 2}, []int{1, 3}}, {[]int{1}, nil}, {[]int{0, 1, 1}, nil},
	} {
		d := made(t, x, whole())
		if e := d.Feed(c.o...); e != api.OK || !slices.Equal(d.Sure(), c.want) {
			t.Errorf("%v: %v and error %d", c.o, d.Sure(), e)
		}
	}
	// The word 3 goes on, or begins again: one token says 3, another one 3 3.
	y := taskOf(t, x.Phones, []int{3}, []int{3, 3})
	d := made(t, y, whole())
	if e := d.Feed(2, 2); e != api.OK || len(d.Sure()) != 0 {
		t.Errorf("%v", d.Sure())
	}
	y = taskOf(t, x.Phones, []int{3, 3})
	d = made(t, y, whole())
	if e := d.Feed(2, 2, 2); e != api.OK || !slices.Equal(d.Sure(), []int{1}) {
		t.Errorf("%v", d.Sure())
	}
}

// TestFeedErrors checks that nothing changes with an error.
func TestFeedErrors(t *testing.T) {
	r := rand.New(rand.NewSource(8))
	for range 100 {
		x := randomTask(t, r, small)
		d := made(t, x, randomBeam(r))
		o := randomRecording(r, x, r.Intn(4))
		if e := d.Feed(o...); e != api.OK {
			t.Fatalf("Feed: error %d", e)
		}
		report, sure, frames := state(t, d)
		symbols := len(x.Phones[0].Say[0])
		for _, c := range []struct {
			more []int
			want api.Errno
		}{
			{nil, api.OK}, {[]int{0, symbols}, api.ErrArg}, {[]int{0, -1, 0}, api.ErrArg}, {make([]int, api.MaxFrames-len(o)+1), api.ErrLong}, {slices.Repeat([]int{-1}, api.MaxFrames+1), api.ErrLong},
		} {
			if e := d.Feed(c.more...); e != c.want {
				t.Errorf("%d symbols after %d: error %d", len(c.more), len(o), e)
			}
		}
		if again, words, n := state(t, d); again != report || !slices.Equal(words, sure) || n != frames {
			t.Fatalf("%s has become %s", report, again)
		}
	}
}

// TestFeedTooMany checks that frames before one with too many places are not kept either.
func TestFeedTooMany(t *testing.T) {
	x := crowd(t, 500)
	d := made(t, x, api.Beam{Width: 3})
	if e := d.Feed(1, 0, 1); e != api.ErrLong || d.Frames() != 0 || len(d.Sure()) != 0 {
		t.Errorf("error %d after %d frames", e, d.Frames())
	}
	if e := d.Feed(1); e != api.OK || d.Frames() != 1 {
		t.Errorf("error %d after %d frames", e, d.Frames())
	}
	before, _, _ := state(t, d)
	if e := d.Feed(0); e != api.ErrLong || d.Frames() != 1 {
		t.Errorf("error %d after %d frames", e, d.Frames())
	}
	if after, _, _ := state(t, d); after != before {
		t.Errorf("%s has become %s", before, after)
	}
}

// TestMostFrames checks the bound of the frames of a decoder.
func TestMostFrames(t *testing.T) {
	d := made(t, simple(t), whole())
	for range 10 {
		if e := d.Feed(make([]int, api.MaxFrames/10)...); e != api.OK {
			t.Fatalf("error %d", e)
		}
	}
	if e := d.Feed(0); e != api.ErrLong || d.Frames() != api.MaxFrames {
		t.Errorf("error %d after %d frames", e, d.Frames())
	}
	if e := d.Feed(9); e != api.ErrLong {
		t.Errorf("error %d for a symbol that does not exist", e)
	}
	if e := d.Feed(); e != api.OK {
		t.Errorf("error %d for nothing", e)
	}
}

// TestNoDecoder checks that a nil Decoder and a zero one behave alike.
func TestNoDecoder(t *testing.T) {
	for _, d := range []*decode.Decoder{nil, {}} {
		r, e := d.Report()
		if e != api.ErrNil || r.Found || r.Trace != nil || r.Words != nil || !isZero(r.Weight) || !isZero(r.Bound) || r.Dropped != 0 || r.Proved {
			t.Errorf("Report: %v and error %d", r, e)
		}
		if d.Frames() != 0 || len(d.Sure()) != 0 {
			t.Error("Frames or Sure")
		}
		for _, o := range [][]int{nil, {0}, {-1}, make([]int, api.MaxFrames+1)} {
			if e := d.Feed(o...); e != api.ErrNil {
				t.Errorf("Feed of %d symbols: error %d", len(o), e)
			}
		}
	}
}

// TestDecodersAreApart checks that decoders for the same task, of which one has a copy of the state of another one, do not disturb each other.
func TestDecodersAreApart(t *testing.T) {
	r := rand.New(rand.NewSource(9))
	for range 100 {
		x, b := randomTask(t, r, small), randomBeam(r)
		o, p := randomRecording(r, x, 3), randomRecording(r, x, 3)
		first := made(t, x, b)
		if e := first.Feed(o...); e != api.OK {
			t.Fatal(e)
		}
		second := *first
		if e := second.Feed(p...); e != api.OK {
			t.Fatal(e)
		}
		if got, _, _ := state(t, first); got != showReport(decoded(t, x, b, o)) {
			t.Fatalf("first: %s", got)
		}
		if got, _, _ := state(t, &second); got != showReport(decoded(t, x, b, slices.Concat(o, p))) {
			t.Fatalf("second: %s", got)
		}
	}
}
