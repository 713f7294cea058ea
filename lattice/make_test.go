// Tests of P8.1: Check, Make, Trim.

package lattice_test

import (
	"math"
	"math/rand"
	"slices"
	"testing"

	"earshot/api"
	"earshot/decode"
	"earshot/frac"
	"earshot/lattice"
	"earshot/model"
)

// flaw is a change that makes a valid lattice wrong.
type flaw struct {
	what string
	make func(l *api.Lattice)
	want api.Errno
}

// flaws returns all kinds of flaws, for a lattice with two frames and three arcs.
func flaws(t *testing.T) []flaw {
	t.Helper()
	arg, long := api.ErrArg, api.ErrLong
	list := []flaw{
		{"no arcs", func(l *api.Lattice) { l.Arcs = nil }, api.OK},
		{"no frames", func(l *api.Lattice) { l.Frames = 0 }, arg},
		{"no frames and no arcs", func(l *api.Lattice) { *l = api.Lattice{} }, api.OK},
		{"fewer frames", func(l *api.Lattice) { l.Frames = 1 }, arg},
		{"more frames", func(l *api.Lattice) { l.Frames = 3 }, api.OK},
		{"all frames", func(l *api.Lattice) { l.Frames = api.MaxFrames }, api.OK},
		{"all arcs", func(l *api.Lattice) { *l = full(api.MaxArcs) }, api.OK},
		{"too many arcs", func(l *api.Lattice) { *l = full(api.MaxArcs + 1) }, long},
		{"too many arcs that are none", func(l *api.Lattice) { l.Arcs = make([]api.Arc, api.MaxArcs+1) }, long},
		{"too many arcs and wrong frames", func(l *api.Lattice) { *l = full(api.MaxArcs + 1); l.Frames = -1 }, long},
		{"an arc to the end", func(l *api.Lattice) { l.Arcs[2].To = 3; l.Frames = 3 }, api.OK},
		{"an arc beyond the end", func(l *api.Lattice) { l.Arcs[2].To = 3 }, arg},
		{"an arc without frames", func(l *api.Lattice) { l.Arcs[2].From = 2 }, arg},
		{"an arc backwards", func(l *api.Lattice) { l.Arcs[2].From, l.Arcs[2].To = 2, 1 }, arg},
		{"an arc from before the first frame", func(l *api.Lattice) { l.Arcs[0].From = -1 }, arg},
		{"arcs with the From exchanged", func(l *api.Lattice) { l.Arcs[1], l.Arcs[2] = l.Arcs[2], l.Arcs[1] }, arg},
		{"arcs with the To exchanged", func(l *api.Lattice) { l.Arcs[0], l.Arcs[1] = l.Arcs[1], l.Arcs[0] }, arg},
		{"an arc twice", func(l *api.Lattice) { l.Arcs[1] = l.Arcs[0] }, arg},
		{"another weight only", func(l *api.Lattice) { l.Arcs[1] = l.Arcs[0]; l.Arcs[1].Weight = f(t, "1/7") }, arg},
		{"another variant", func(l *api.Lattice) { l.Arcs[1] = l.Arcs[0]; l.Arcs[1].Variant = 9 }, api.OK},
		{"a lesser variant behind a greater one", func(l *api.Lattice) { l.Arcs[1] = l.Arcs[0]; l.Arcs[0].Variant = 9 }, arg},
		{"another word", func(l *api.Lattice) { l.Arcs[1] = l.Arcs[0]; l.Arcs[1].Word = 2 }, api.OK},
		{"a lesser word behind a greater one", func(l *api.Lattice) { l.Arcs[1] = l.Arcs[0]; l.Arcs[0].Word = 2 }, arg},
		{"a lesser word with a greater variant", func(l *api.Lattice) { l.Arcs[1] = l.Arcs[0]; l.Arcs[0].Word, l.Arcs[1].Variant = 2, 5 }, arg},
		{"a great variant", func(l *api.Lattice) { l.Arcs[2].Variant = math.MaxInt }, api.OK},
		{"a great word", func(l *api.Lattice) { l.Arcs[2].Word = api.MaxWords }, api.OK},
		{"the weight 1", func(l *api.Lattice) { l.Arcs[2].Weight = api.Frac{N: []uint32{7, 0}, D: []uint32{7}} }, api.OK},
	}
	for _, n := range outside(0, api.MaxFrames) {
		list = append(list, flaw{"frames", func(l *api.Lattice) { l.Frames = n }, arg})
	}
	for _, n := range outside(1, api.MaxWords) {
		list = append(list, flaw{"a word", func(l *api.Lattice) { l.Arcs[2].Word = n }, arg})
	}
	for _, n := range outside(0, math.MaxInt) {
		list = append(list, flaw{"a variant", func(l *api.Lattice) { l.Arcs[2].Variant = n }, arg}, flaw{"a From", func(l *api.Lattice) { l.Arcs[0].From = n }, arg}, flaw{"a To", func(l *api.Lattice) { l.Arcs[2].To = n }, arg})
	}
	for _, w := range []api.Frac{{}, {N: []uint32{0, 0}, D: []uint32{3}}, {Neg: true, N: []uint32{1}}, {N: []uint32{3}, D: []uint32{2}}, {N: []uint32{0, 1}}} {
		list = append(list, flaw{"a weight", func(l *api.Lattice) { l.Arcs[2].Weight = w }, arg})
	}
	return list
}

// full is a lattice with so many arcs, which are those of 20 words for each frame.
func full(arcs int) api.Lattice {
	l := api.Lattice{Frames: api.MaxFrames}
	for i := range arcs {
		l.Arcs = append(l.Arcs, api.Arc{From: min(i/20, api.MaxFrames-1), To: min(i/20, api.MaxFrames-1) + 1, Word: 1 + i%20, Variant: i / 20 / api.MaxFrames, Weight: frac.Of(1)})
	}
	return l
}

func TestCheck(t *testing.T) {
	for _, c := range flaws(t) {
		l := example(t)
		c.make(&l)
		if e := lattice.Check(l); e != c.want {
			t.Errorf("%s: error %d", c.what, e)
		}
		if _, e := lattice.Trim(l); e != c.want {
			t.Errorf("Trim, %s: error %d", c.what, e)
		}
	}
	r := rand.New(rand.NewSource(1))
	for range 300 {
		if l := randomLattice(r, 5, 3); lattice.Check(l) != api.OK {
			t.Fatalf("%s: error %d", show(l), lattice.Check(l))
		}
	}
}

// made is what Make returns, which must not fail.
func made(t *testing.T, x api.Task, o []int) api.Lattice {
	t.Helper()
	l, e := lattice.Make(x, o)
	if e != api.OK || lattice.Check(l) != api.OK {
		t.Fatalf("Make of %v: error %d, and %d for %s", o, e, lattice.Check(l), show(l))
	}
	return l
}

func TestMakeExample(t *testing.T) {
	if l := made(t, simple(t), []int{0, 1}); show(l) != show(example(t)) {
		t.Error(show(l))
	}
	if l := made(t, simple(t), nil); show(l) != "0 frames" {
		t.Error(show(l))
	}
}

// TestMake compares with the sums over all ways to cut all pieces, and Total with that of layer 7.
func TestMake(t *testing.T) {
	r := rand.New(rand.NewSource(2))
	arcs, variants := 0, 0
	for range 300 {
		x := randomTask(t, r, size{phones: 3, states: 3, symbols: 3, words: 3, variants: 3, spelled: 3, order: 4})
		o := randomRecording(r, x, r.Intn(6))
		want, weights := madeOf(t, x, o)
		got := made(t, x, o)
		if got.Frames != len(o) || len(got.Arcs) != len(want.Arcs) {
			t.Fatalf("Make of %v: %s, not %s", o, show(got), show(want))
		}
		for i, a := range got.Arcs {
			expect(t, "the weight of an arc", a.Weight, api.OK, weights[i])
			a.Weight = api.Frac{}
			if b := want.Arcs[i]; a.From != b.From || a.To != b.To || a.Word != b.Word || a.Variant != b.Variant {
				t.Fatalf("Make of %v: %s, not %s", o, show(got), show(want))
			}
			variants += min(a.Variant, 1)
		}
		arcs += len(got.Arcs)
		total, e := decode.Total(x, o)
		if e != api.OK {
			t.Fatalf("decode.Total: error %d", e)
		}
		sum, e := lattice.Total(got, x.Language)
		expect(t, "the total of a task", sum, e, valueOf(total))
	}
	if arcs < 500 || variants < 100 {
		t.Errorf("only %d arcs, %d of them of further variants", arcs, variants)
	}
}

// TestMakeOfLongWords checks words whose phones have more states together than a model can have.
func TestMakeOfLongWords(t *testing.T) {
	large, e := model.Left(api.MaxStates, 1)
	if e != api.OK {
		t.Fatal(e)
	}
	frames := 2*api.MaxStates + 1
	l := made(t, taskOf(t, []api.Model{large}, []int{1, 1}), make([]int, frames))
	// Each path stays once, in one of 80 states, or is one frame shorter. All weights are 1/2, but those of the first start and of the symbols are 1.
	half := func(n int) string { return text(powerOf(t, "1/2", n)) }
	if len(l.Arcs) != 3 {
		t.Fatal(show(l))
	}
	for i, want := range []string{half(frames - 1), text(frac.Mul(frac.Of(frames-1), powerOf(t, "1/2", frames))), half(frames - 1)} {
		if got := text(l.Arcs[i].Weight); got != want {
			t.Errorf("arc %d: %s, not %s", i, got, want)
		}
	}
}

// powerOf is a number to a power.
func powerOf(t *testing.T, s string, n int) api.Frac {
	t.Helper()
	w, e := frac.Pow(f(t, s), n)
	if e != api.OK {
		t.Fatalf("Pow: error %d", e)
	}
	return w
}

// TestMakeBounds checks lattices with the greatest number of arcs, and with more.
func TestMakeBounds(t *testing.T) {
	// All pieces of 199 frames are 19900.
	l := made(t, simple(t), make([]int, 199))
	if len(l.Arcs) != 19900 {
		t.Errorf("%d arcs", len(l.Arcs))
	}
	all := taskOf(t, []api.Model{single(t, "0", "1", "1")}, slices.Repeat([][]int{{1}}, 20)...)
	if l := made(t, all, make([]int, api.MaxFrames)); len(l.Arcs) != api.MaxArcs {
		t.Errorf("%d arcs", len(l.Arcs))
	}
	more := taskOf(t, []api.Model{single(t, "0", "1", "1")}, append(slices.Repeat([][]int{{1}}, 20), []int{1, 1})...)
	for _, c := range []struct {
		what string
		x    api.Task
		o    []int
		want api.Errno
	}{
		{"too many pieces", simple(t), make([]int, 200), api.ErrLong},
		{"many more pieces", simple(t), make([]int, api.MaxFrames), api.ErrLong},
		{"too many arcs", more, make([]int, api.MaxFrames), api.ErrLong},
		{"too many arcs, but a symbol that there is not", more, append(make([]int, api.MaxFrames-1), 1), api.ErrArg},
	} {
		if l, e := lattice.Make(c.x, c.o); e != c.want || l.Frames != 0 || l.Arcs != nil {
			t.Errorf("%s: error %d and %d arcs", c.what, e, len(l.Arcs))
		}
	}
}

// TestMakeErrors checks tasks and recordings that layer 7 refuses.
func TestMakeErrors(t *testing.T) {
	wrong := simple(t)
	wrong.Words = nil
	long := simple(t)
	long.Phones = slices.Repeat(long.Phones, api.MaxModels+1)
	table := simple(t)
	table.Language.Table.List = make([]api.Gram, api.MaxGrams+1)
	for _, c := range []struct {
		what string
		x    api.Task
		o    []int
		want api.Errno
	}{
		{"no task", api.Task{}, nil, api.ErrArg},
		{"a task without words", wrong, []int{0}, api.ErrArg},
		{"too many models", long, []int{0}, api.ErrLong},
		{"too many models, a symbol that there is not", long, []int{5}, api.ErrLong},
		{"too many n-grams", table, []int{0}, api.ErrLong},
		{"all frames", taskOf(t, []api.Model{single(t, "0", "1", "1")}, []int{1}), make([]int, api.MaxFrames), api.OK},
		{"too many frames", simple(t), make([]int, api.MaxFrames+1), api.ErrLong},
		{"too many frames for no task", wrong, make([]int, api.MaxFrames+1), api.ErrLong},
		{"too many frames, a symbol that there is not", simple(t), append(make([]int, api.MaxFrames), 9), api.ErrLong},
	} {
		if l, e := lattice.Make(c.x, c.o); e != c.want || e != api.OK && (l.Frames != 0 || l.Arcs != nil) {
			t.Errorf("%s: error %d", c.what, e)
		}
	}
	for _, k := range outside(0, 1) {
		if l, e := lattice.Make(simple(t), []int{0, k}); e != api.ErrArg || l.Frames != 0 || l.Arcs != nil {
			t.Errorf("symbol %d: error %d", k, e)
		}
	}
}

// TestMakeLeavesOut checks what explains nothing: variants with the weight 0, and symbols that a phone cannot say.
func TestMakeLeavesOut(t *testing.T) {
	x := taskOf(t, []api.Model{single(t, "1/2", "1/2", "1 0"), single(t, "1/2", "1/2", "0 1")}, []int{1}, []int{1, 2}, []int{2, 1, 2})
	x.Words[0] = []api.Variant{{Phones: []int{2}, Weight: api.Frac{N: []uint32{0}, D: []uint32{5}}}, {Phones: []int{1}, Weight: frac.Of(1)}}
	if l := made(t, x, []int{0, 0, 1}); show(l) != "3 frames; 0 1 1 1 1/2; 0 2 1 1 1/4; 0 3 2 0 1/8; 1 2 1 1 1/2; 1 3 2 0 1/4" {
		t.Error(show(l))
	}
	// Nothing explains the last frame here, but there are arcs that lie on no path.
	if l := made(t, x, []int{0, 1, 1, 0, 1, 1, 1}); show(l) == show(trimmed(t, l)) {
		t.Error(show(l))
	}
}

// trimmed is what Trim returns, which must not fail.
func trimmed(t *testing.T, l api.Lattice) api.Lattice {
	t.Helper()
	x, e := lattice.Trim(l)
	if e != api.OK || lattice.Check(x) != api.OK {
		t.Fatalf("Trim of %s: error %d, and %d for %s", show(l), e, lattice.Check(x), show(x))
	}
	return x
}

// TestTrim compares with the arcs of all paths.
func TestTrim(t *testing.T) {
	r := rand.New(rand.NewSource(3))
	kept, dropped := 0, 0
	for range 500 {
		l := randomLattice(r, 5, 2)
		want := api.Lattice{Frames: l.Frames}
		list := slices.Concat(pathsFrom(l, 0)...)
		for i, a := range l.Arcs {
			if slices.Contains(list, i) {
				want.Arcs = append(want.Arcs, a)
			}
		}
		if got := trimmed(t, l); show(got) != show(want) {
			t.Fatalf("%s becomes %s, not %s", show(l), show(got), show(want))
		}
		kept, dropped = kept+len(want.Arcs), dropped+len(l.Arcs)-len(want.Arcs)
	}
	if kept < 100 || dropped < 100 {
		t.Errorf("%d and %d", kept, dropped)
	}
	for _, l := range []api.Lattice{{}, {Frames: 1}, without(t)} {
		if got := trimmed(t, l); got.Frames != l.Frames || len(got.Arcs) != 0 {
			t.Errorf("%s becomes %s", show(l), show(got))
		}
	}
}
