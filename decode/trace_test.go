// Tests of P7.1: Check, Words, Weight.

package decode_test

import (
	"math/big"
	"math/rand"
	"slices"
	"testing"

	"earshot/api"
	"earshot/decode"
	"earshot/frac"
	"earshot/model"
)

func TestCheckExamples(t *testing.T) {
	if e := decode.Check(simple(t)); e != api.OK {
		t.Errorf("simple: %d", e)
	}
	r := rand.New(rand.NewSource(3))
	for range 300 {
		if x := randomTask(t, r, small); decode.Check(x) != api.OK {
			t.Fatalf("%v: %d", x, decode.Check(x))
		}
	}
}

// flaw is a change that makes a valid task wrong.
type flaw struct {
	what string
	make func(x *api.Task)
	want api.Errno
}

// fine returns a valid task with two models, two words and an order of 2, which flaws may change.
func fine(t *testing.T) api.Task {
	t.Helper()
	x := taskOf(t, []api.Model{single(t, "1/2", "1/2", "1/3 2/3"), single(t, "0", "1", "1/2 1/2")}, []int{1, 2}, []int{2})
	x.Words[1] = append(x.Words[1], api.Variant{Phones: []int{1}, Weight: frac.Of(0)})
	x.Language.Table = counted(t, 2, 2, []int{1, 2})
	return x
}

// flaws returns all kinds of flaws.
func flaws(t *testing.T) []flaw {
	t.Helper()
	arg, long := api.ErrArg, api.ErrLong
	valid := single(t, "1/2", "1/2", "1/3 2/3")
	variant := func(phones ...int) api.Variant { return api.Variant{Phones: phones, Weight: frac.Of(1)} }
	share := func(w string) api.Variant { return api.Variant{Phones: []int{1}, Weight: f(t, w)} }
	large, err := model.Left(api.MaxStates, api.MaxSymbols)
	if err != api.OK {
		t.Fatal(err)
	}
	tooLarge := api.Model{Start: make([]api.Frac, api.MaxStates+1)}
	return []flaw{
		{"no models", func(x *api.Task) { x.Phones = nil }, arg},
		{"all models", func(x *api.Task) { x.Phones = slices.Repeat(x.Phones[:1], api.MaxModels) }, api.OK},
		{"too many models", func(x *api.Task) { x.Phones = slices.Repeat(x.Phones[:1], api.MaxModels+1) }, long},
		{"too many models that are none", func(x *api.Task) { x.Phones = make([]api.Model, api.MaxModels+1) }, long},
		{"a model that is none", func(x *api.Task) { x.Phones = []api.Model{valid, {}} }, arg},
		{"a first model that is none", func(x *api.Task) { x.Phones = []api.Model{{}, valid} }, arg},
		{"a model that is not valid", func(x *api.Task) { x.Phones = []api.Model{valid, single(t, "1/2", "1/3", "1/3 2/3")} }, arg},
		{"more symbols in a model", func(x *api.Task) { x.Phones = []api.Model{valid, single(t, "1/2", "1/2", "1/3 1/3 1/3")} }, arg},
		{"fewer symbols in a model", func(x *api.Task) { x.Phones = []api.Model{valid, single(t, "1/2", "1/2", "1")} }, arg},
		{"large models", func(x *api.Task) { x.Phones = []api.Model{large, large} }, api.OK},
		{"too many states", func(x *api.Task) { x.Phones = []api.Model{valid, tooLarge} }, long},
		{"too many symbols", func(x *api.Task) {
			x.Phones = []api.Model{valid, {Say: [][]api.Frac{make([]api.Frac, api.MaxSymbols+1)}}}
		}, long},
		{"too many states behind a model that is none", func(x *api.Task) { x.Phones = []api.Model{{}, tooLarge} }, long},
		{"no words", func(x *api.Task) { x.Words = nil }, arg},
		{"fewer words than the table", func(x *api.Task) { x.Words = x.Words[:1] }, arg},
		{"more words than the table", func(x *api.Task) { x.Words = append(slices.Clone(x.Words), x.Words[0]) }, arg},
		{"very many words", func(x *api.Task) { x.Words = slices.Repeat(x.Words, api.MaxWords) }, arg},
		{"no variants", func(x *api.Task) { x.Words[1] = nil }, arg},
		{"all variants", func(x *api.Task) { x.Words[1] = slices.Repeat([]api.Variant{share("1/10")}, api.MaxVariants) }, api.OK},
		{"too many variants", func(x *api.Task) { x.Words[1] = slices.Repeat([]api.Variant{share("1/11")}, api.MaxVariants+1) }, long},
		{"no phones", func(x *api.Task) { x.Words[0] = []api.Variant{variant()} }, arg},
		{"all phones", func(x *api.Task) { x.Words[0] = []api.Variant{variant(slices.Repeat([]int{2}, api.MaxSpelled)...)} }, api.OK},
		{"too many phones", func(x *api.Task) { x.Words[0] = []api.Variant{variant(slices.Repeat([]int{2}, api.MaxSpelled+1)...)} }, long},
		{"too many phones that are none", func(x *api.Task) { x.Words[0] = []api.Variant{{}, variant(make([]int, api.MaxSpelled+1)...)} }, long},
		{"too many phones, and no models", func(x *api.Task) {
			x.Phones, x.Words[1] = nil, []api.Variant{variant(make([]int, api.MaxSpelled+1)...)}
		}, long},
		{"the phone 0", func(x *api.Task) { x.Words[0] = []api.Variant{variant(1, 0)} }, arg},
		{"a phone without a model", func(x *api.Task) { x.Words[0] = []api.Variant{variant(3, 1)} }, arg},
		{"variants with too much weight", func(x *api.Task) { x.Words[0] = []api.Variant{share("1/2"), share("2/3")} }, arg},
		{"variants with too little weight", func(x *api.Task) { x.Words[0] = []api.Variant{share("1/2"), share("1/3")} }, arg},
		{"a negative weight", func(x *api.Task) { x.Words[0] = []api.Variant{share("3/2"), share("-1/2")} }, arg},
		{"a distribution with numbers that are not canonical", func(x *api.Task) {
			x.Words[0] = []api.Variant{share("1/3"), {Phones: []int{1}, Weight: api.Frac{N: []uint32{4, 0}, D: []uint32{6, 0}}}}
		}, api.OK},
		{"no language model", func(x *api.Task) { x.Language = api.Language{} }, arg},
		{"a smoothing that does not exist", func(x *api.Task) { x.Language.By = 5 }, arg},
		{"a table that is not valid", func(x *api.Task) { x.Language.Table.List = []api.Gram{{Words: []int{1}, N: 1}} }, arg},
		{"an amount that is not asked for", func(x *api.Task) { x.Language.Amount = frac.Of(1) }, arg},
		{"too many n-grams", func(x *api.Task) { x.Language.Table.List = make([]api.Gram, api.MaxGrams+1) }, long},
		{"too many n-grams, and no models", func(x *api.Task) { x.Phones, x.Language.Table.List = nil, make([]api.Gram, api.MaxGrams+1) }, long},
		{"too many n-grams, and a model that is none", func(x *api.Task) {
			x.Phones, x.Language.Table.List = []api.Model{{}}, make([]api.Gram, api.MaxGrams+1)
		}, long},
		{"nothing", func(x *api.Task) { *x = api.Task{} }, arg},
	}
}

// TestCheckFlaws checks what each function returns for tasks that are not valid.
func TestCheckFlaws(t *testing.T) {
	for _, c := range flaws(t) {
		x := fine(t)
		c.make(&x)
		if e := decode.Check(x); e != c.want {
			t.Errorf("Check of %s: %d", c.what, e)
		}
		if _, e := decode.Weight(x, nil, nil); e != c.want {
			t.Errorf("Weight for %s: %d", c.what, e)
		}
		if _, e := decode.Decode(x, whole(), nil); e != c.want {
			t.Errorf("Decode for %s: %d", c.what, e)
		}
		if d, e := decode.New(x, whole()); e != c.want || (d == nil) != (e != api.OK) {
			t.Errorf("New for %s: %d", c.what, e)
		}
		if _, e := decode.Total(x, nil); e != c.want {
			t.Errorf("Total for %s: %d", c.what, e)
		}
		if _, e := decode.Prove(x, nil); e != c.want {
			t.Errorf("Prove for %s: %d", c.what, e)
		}
		if decode.Verify(x, nil, frac.Of(1), api.Proof{}) != (c.want == api.OK) {
			t.Errorf("Verify for %s", c.what)
		}
	}
}

// TestErrorOrder checks that a bound that is exceeded comes before all other errors.
func TestErrorOrder(t *testing.T) {
	long := make([]int, api.MaxFrames+1)
	long[0] = 9
	for _, c := range flaws(t) {
		x := fine(t)
		c.make(&x)
		want := max(c.want, api.ErrArg)
		if _, e := decode.Decode(x, api.Beam{}, nil); e != want {
			t.Errorf("Decode for %s with a wrong beam: %d", c.what, e)
		}
		if _, e := decode.New(x, api.Beam{}); e != want {
			t.Errorf("New for %s with a wrong beam: %d", c.what, e)
		}
		if _, e := decode.Weight(x, []int{7}, nil); e != want {
			t.Errorf("Weight for %s with a wrong symbol: %d", c.what, e)
		}
		_, e := decode.Weight(x, long, nil)
		_, other := decode.Total(x, long)
		_, third := decode.Prove(x, long)
		_, fourth := decode.Decode(x, api.Beam{}, long)
		if e != api.ErrLong || other != api.ErrLong || third != api.ErrLong || fourth != api.ErrLong {
			t.Errorf("%s with a recording that is too long: %d %d %d %d", c.what, e, other, third, fourth)
		}
	}
}

func TestWords(t *testing.T) {
	for s, want := range map[string]string{"": "", "+1.0.0.0": "1", "+1.0.0.0 -1.0.0.0 +1.0.0.0": "1 1", "-3.0.0.0 -4.0.0.0": "", "-3.0.0.0 +-7.9.9.9 -1.0.0.0 +2.0.0.0": "-7 2"} {
		if got := decode.Words(points(t, s)); !slices.Equal(got, ints(t, want)) {
			t.Errorf("%s: %v", s, got)
		}
	}
}

func TestWeightExamples(t *testing.T) {
	for s, want := range map[string]string{"+1.0.0.0 +1.0.0.0": "1/144", "+1.0.0.0 -1.0.0.0": "1/72"} {
		w, e := decode.Weight(simple(t), []int{0, 1}, points(t, s))
		expect(t, s, w, e, valueOf(f(t, want)))
	}
	w, e := decode.Weight(simple(t), nil, nil)
	expect(t, "no frames", w, e, big.NewRat(1, 2))
}

// TestWeight compares the weights of all traces, also of those that weigh 0, with the definition.
func TestWeight(t *testing.T) {
	r := rand.New(rand.NewSource(4))
	nothing, something := 0, 0
	for range 150 {
		x := randomTask(t, r, small)
		o := randomRecording(r, x, r.Intn(4))
		list := traces(x, len(o))
		r.Shuffle(len(list), func(i, j int) { list[i], list[j] = list[j], list[i] })
		for _, trace := range list[:min(len(list), 60)] {
			w, e := decode.Weight(x, o, trace)
			want := weightOf(x, o, trace)
			expect(t, showTrace(trace), w, e, want)
			if want.Sign() == 0 {
				nothing++
			} else {
				something++
			}
		}
	}
	if nothing < 100 || something < 100 {
		t.Errorf("%d and %d", nothing, something)
	}
}

// TestNoTraces checks all lists of points that are nearly traces.
func TestNoTraces(t *testing.T) {
	r := rand.New(rand.NewSource(5))
	refused, accepted := 0, 0
	for range 150 {
		x := randomTask(t, r, small)
		o := randomRecording(r, x, 1+r.Intn(3))
		list := traces(x, len(o))
		if len(list) == 0 {
			continue
		}
		for range 30 {
			trace := slices.Clone(list[r.Intn(len(list))])
			spoilTrace(r, &trace)
			w, e := decode.Weight(x, o, trace)
			if mayBe(x, len(o), trace) {
				accepted++
				expect(t, showTrace(trace), w, e, weightOf(x, o, trace))
			} else if refused++; e != api.ErrArg || !isZero(w) {
				t.Fatalf("%s for %v: %s and error %d", showTrace(trace), x, text(w), e)
			}
		}
	}
	if refused < 1000 || accepted < 100 {
		t.Errorf("%d refused, %d accepted", refused, accepted)
	}
}

// spoilTrace changes a trace.
func spoilTrace(r *rand.Rand, trace *[]api.Point) {
	l := *trace
	p := &l[r.Intn(len(l))]
	edges := edgeInts()
	other := func(n *int) {
		if *n += r.Intn(3) - 1; r.Intn(4) == 0 {
			*n = edges[r.Intn(len(edges))]
		}
	}
	switch r.Intn(7) {
	case 0:
		p.New = !p.New
	case 1:
		other(&p.Word)
	case 2:
		other(&p.Variant)
	case 3:
		other(&p.Phone)
	case 4:
		other(&p.State)
	case 5:
		*trace = l[:len(l)-1]
	case 6:
		*trace = append(l, l[len(l)-1])
	}
}

// TestSkippedPhones checks that a trace goes through all phones of a variant.
func TestSkippedPhones(t *testing.T) {
	x := taskOf(t, []api.Model{single(t, "1/2", "1/2", "1")}, []int{1, 1, 1})
	for s, want := range map[string]api.Errno{
		"+1.0.0.0 -1.0.1.0 -1.0.2.0": api.OK, "+1.0.0.0 -1.0.2.0 -1.0.2.0": api.ErrArg, "+1.0.0.0 -1.0.1.0 -1.0.0.0": api.ErrArg, "+1.0.0.0 -1.0.0.0 -1.0.2.0": api.ErrArg, "+1.0.0.0 -1.0.1.0 -1.0.1.0": api.ErrArg, "+1.0.2.0 -1.0.2.0 -1.0.2.0": api.ErrArg, "+1.0.0.0 -1.0.1.0 +1.0.2.0": api.ErrArg,
	} {
		if _, e := decode.Weight(x, []int{0, 0, 0}, points(t, s)); e != want {
			t.Errorf("%s: error %d", s, e)
		}
	}
}

func TestWeightErrors(t *testing.T) {
	x := simple(t)
	trace := points(t, "+1.0.0.0")
	for _, k := range outside(0, 1) {
		if _, e := decode.Weight(x, []int{k}, trace); e != api.ErrArg {
			t.Errorf("symbol %d: %d", k, e)
		}
	}
	for frames := range 4 {
		want := api.ErrArg
		if frames == 1 {
			want = api.OK
		}
		if _, e := decode.Weight(x, make([]int, frames), trace); e != want {
			t.Errorf("%d frames: %d", frames, e)
		}
	}
}
