// Tests of P2.1 (Valid, Pack, Unpack).

package wave_test

import (
	"bytes"
	"encoding/binary"
	"math"
	"math/rand"
	"slices"
	"testing"

	"earshot/api"
	"earshot/wave"
)

// withSum returns b with its sum behind it, computed without this package.
func withSum(b []byte) []byte {
	c := uint64(1)
	for _, x := range b {
		c = (65599*c + uint64(x) + 1) % (1 << 32)
	}
	return binary.LittleEndian.AppendUint32(slices.Clone(b), uint32(c))
}

// headOf returns the bytes before the samples, for any rate and number of samples.
func headOf(rate, count uint32) []byte {
	b := binary.LittleEndian.AppendUint32([]byte("EAR1"), rate)
	return binary.LittleEndian.AppendUint32(b, count)
}

// bytesOf returns the bytes of a recording, computed without this package.
func bytesOf(r api.Recording) []byte {
	b := headOf(uint32(r.Rate), uint32(len(r.Samples)))
	for _, sample := range r.Samples {
		b = binary.LittleEndian.AppendUint16(b, uint16((sample+65536)%65536))
	}
	return withSum(b)
}

func TestValid(t *testing.T) {
	for _, r := range []api.Recording{
		{Rate: 1}, {Rate: 8000, Samples: []int{}}, {Rate: api.MaxRate, Samples: []int{0}},
		{Rate: 1, Samples: []int{-32768, 32767}}, {Rate: 1, Samples: make([]int, api.MaxSamples)},
	} {
		if !wave.Valid(r) {
			t.Errorf("rate %d, %v is a recording", r.Rate, short(r.Samples))
		}
	}
	for _, r := range invalidRecordings() {
		if wave.Valid(r) {
			t.Errorf("rate %d, %v is no recording", r.Rate, short(r.Samples))
		}
	}
	if wave.Valid(api.Recording{Rate: 1, Samples: make([]int, api.MaxSamples+1)}) {
		t.Error("a recording has at most api.MaxSamples samples")
	}
}

// invalidRecordings returns what is no recording, but for lists that are too long.
func invalidRecordings() []api.Recording {
	return []api.Recording{
		{}, {Rate: -1}, {Rate: api.MaxRate + 1, Samples: []int{1}}, {Rate: math.MaxInt}, {Rate: math.MinInt}, {Samples: []int{1, 2}},
		{Rate: 1, Samples: []int{32768}}, {Rate: 1, Samples: []int{-32769}}, {Rate: 1, Samples: []int{0, 0, 1 << 40}}, {Rate: 1, Samples: []int{math.MinInt, 0}},
	}
}

func TestPackExamples(t *testing.T) {
	for _, c := range []struct {
		r    api.Recording
		want []byte
	}{
		{api.Recording{Rate: 8000}, []byte{0x45, 0x41, 0x52, 0x31, 0x40, 0x1f, 0, 0, 0, 0, 0, 0}},
		{api.Recording{Rate: 192000, Samples: []int{-1, 258, -32768, 32767}}, []byte{0x45, 0x41, 0x52, 0x31, 0, 0xee, 2, 0, 4, 0, 0, 0, 0xff, 0xff, 2, 1, 0, 0x80, 0xff, 0x7f}},
	} {
		got, e := wave.Pack(c.r)
		if want := withSum(c.want); e != api.OK || !bytes.Equal(got, want) {
			t.Errorf("%x and error %d, not %x", got, e, want)
		}
	}
}

func TestPackErrors(t *testing.T) {
	for _, r := range invalidRecordings() {
		if b, e := wave.Pack(r); e != api.ErrArg || len(b) > 0 {
			t.Errorf("rate %d, %v: %x and error %d", r.Rate, r.Samples, b, e)
		}
	}
	for _, r := range []api.Recording{{Rate: 1, Samples: make([]int, api.MaxSamples+1)}, {Samples: tooLong()}} {
		if b, e := wave.Pack(r); e != api.ErrLong || len(b) > 0 {
			t.Errorf("too many samples: %d bytes and error %d", len(b), e)
		}
	}
}

// recordings returns recordings of many lengths, empty ones and the longest one among them.
func recordings(seed int64) []api.Recording {
	r := rand.New(rand.NewSource(seed))
	longest := make([]int, api.MaxSamples)
	for i := range longest {
		longest[i] = r.Intn(1<<16) - 1<<15
	}
	list := []api.Recording{{Rate: 1}, {Rate: api.MaxRate, Samples: []int{}}, {Rate: 255, Samples: []int{-32768}}, {Rate: 256, Samples: []int{32767}}, {Rate: 65536, Samples: longest}}
	for range 300 {
		list = append(list, api.Recording{Rate: 1 + r.Intn(api.MaxRate), Samples: randomSamples(r, 40)})
	}
	return list
}

// TestPackAndUnpack checks that Unpack undoes Pack.
func TestPackAndUnpack(t *testing.T) {
	for _, r := range recordings(1) {
		b, e := wave.Pack(r)
		if e != api.OK || !bytes.Equal(b, bytesOf(r)) {
			t.Fatalf("Pack of rate %d, %v: error %d", r.Rate, short(r.Samples), e)
		}
		got, e := wave.Unpack(b)
		expectRecording(t, "Unpack", got, e, r.Rate, r.Samples...)
	}
}

// expectNoText checks that b are the bytes of no recording.
func expectNoText(t *testing.T, what string, b []byte) {
	t.Helper()
	r, e := wave.Unpack(b)
	expectNoRecording(t, what, r, e, api.ErrText)
}

// TestChangedByte changes each byte in all ways.
func TestChangedByte(t *testing.T) {
	for _, r := range []api.Recording{{Rate: 8000}, {Rate: 1, Samples: []int{0}}, {Rate: 44100, Samples: []int{1, -1, 32767, -32768, 0}}} {
		b := bytesOf(r)
		for i := range b {
			for change := 1; change < 256; change++ {
				changed := slices.Clone(b)
				changed[i] ^= byte(change)
				expectNoText(t, "a changed byte", changed)
			}
		}
	}
	b := bytesOf(recordings(2)[4])
	for i := 0; i < len(b); i += 20011 {
		changed := slices.Clone(b)
		changed[i]++
		expectNoText(t, "a changed byte of many", changed)
	}
}

// TestUnpackErrors covers bytes whose sum is right, but which belong to no recording.
func TestUnpackErrors(t *testing.T) {
	two := []byte{1, 0, 2, 0}
	for what, b := range map[string][]byte{
		"another mark":                 withSum(append([]byte("EAR2"), headOf(1, 0)[4:]...)),
		"small letters":                withSum(append([]byte("ear1"), headOf(1, 0)[4:]...)),
		"rate 0":                       withSum(headOf(0, 0)),
		"rate too great":               withSum(headOf(api.MaxRate+1, 0)),
		"greatest rate":                withSum(headOf(math.MaxUint32, 0)),
		"a sample is missing":          withSum(headOf(1, 1)),
		"a sample is missing of three": withSum(append(headOf(1, 3), two...)),
		"a sample too many":            withSum(append(headOf(1, 1), two...)),
		"samples without a number":     withSum(append(headOf(1, 0), two...)),
		"half a sample too many":       withSum(append(headOf(1, 2), 1, 0, 2, 0, 3)),
		"half a sample is missing":     withSum(append(headOf(1, 2), 1, 0, 2)),
		"greatest number of samples":   withSum(append(headOf(1, math.MaxUint32), two...)),
		"number of samples and 2^31":   withSum(append(headOf(1, 1<<31+2), two...)),
		"no numbers":                   withSum([]byte("EAR1")),
		"no number of samples":         withSum(headOf(1, 0)[:8]),
		"only a sum":                   withSum(nil),
		"too many samples":             withSum(append(headOf(1, api.MaxSamples+1), make([]byte, 2*api.MaxSamples+2)...)),
		"longest text":                 make([]byte, 500000),
		"longest text with a sum":      withSum(append(headOf(1, 249992), make([]byte, 499984)...)),
		"something behind the sum":     append(bytesOf(api.Recording{Rate: 1}), 0),
		"the sum first":                append(binary.LittleEndian.AppendUint32(nil, 1), bytesOf(api.Recording{Rate: 1})...),
	} {
		expectNoText(t, what, b)
	}
	whole := bytesOf(api.Recording{Rate: 8000, Samples: []int{1, 2, 3}})
	for n := range whole {
		expectNoText(t, "a beginning", whole[:n])
		expectNoText(t, "an end", whole[n+1:])
	}
	expectNoText(t, "nothing", nil)
	r, e := wave.Unpack(make([]byte, 500001))
	expectNoRecording(t, "too long", r, e, api.ErrLong)
}
