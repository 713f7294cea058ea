package talk_test

import (
	"fmt"
	"math/big"
	"math/rand"
	"reflect"
	"strconv"
	"strings"
	"testing"

	"earshot/api"
	"earshot/frac"
	"earshot/gram"
	"earshot/talk"
)

// bigOf returns the number with the given digits.
func bigOf(digits []uint32) *big.Int {
	n := new(big.Int)
	for i := len(digits) - 1; i >= 0; i-- {
		n.Lsh(n, 32).Or(n, big.NewInt(int64(digits[i])))
	}
	return n
}

// valueOf returns the value of a, computed without the program.
func valueOf(a api.Frac) *big.Rat {
	n, d := bigOf(a.N), bigOf(a.D)
	if d.Sign() == 0 {
		d.SetInt64(1)
	}
	if a.Neg {
		n.Neg(n)
	}
	return new(big.Rat).SetFrac(n, d)
}

// isCanonical reports whether a is canonical, computed without the program.
func isCanonical(a api.Frac) bool {
	trimmed := func(digits []uint32) bool { return len(digits) == 0 || digits[len(digits)-1] != 0 }
	x := valueOf(a)
	whole := x.IsInt() && len(a.D) == 0
	return trimmed(a.N) && trimmed(a.D) && a.Neg == (x.Sign() < 0) && bigOf(a.N).CmpAbs(x.Num()) == 0 && (whole || bigOf(a.D).Cmp(x.Denom()) == 0 && !x.IsInt())
}

// f reads a number.
func f(t *testing.T, s string) api.Frac {
	t.Helper()
	a, e := frac.Parse(s)
	if e != api.OK {
		t.Fatalf("%s: error %d", s, e)
	}
	return a
}

// fs reads numbers with blanks between them.
func fs(t *testing.T, s string) []api.Frac {
	t.Helper()
	var list []api.Frac
	for _, x := range strings.Fields(s) {
		list = append(list, f(t, x))
	}
	return list
}

// fraction returns n / d, sometimes with common divisors and digits 0 at the end.
func fraction(r *rand.Rand, n, d int) api.Frac {
	times := 1 + r.Intn(3)
	a := api.Frac{N: []uint32{uint32(n * times)}, D: []uint32{uint32(d * times)}}
	if r.Intn(3) == 0 {
		a.N, a.D = append(a.N, 0), append(a.D, 0, 0)
	}
	return a
}

// brief writes the beginning of a value.
func brief(x any) string {
	text := fmt.Sprint(x)
	return text[:min(len(text), 300)]
}

// expect checks that there is no error.
func expect(t *testing.T, what string, e api.Errno) {
	t.Helper()
	if e != api.OK {
		t.Fatalf("%s: error %d", what, e)
	}
}

// counted is what gram.Count returns, which must not fail.
func counted(t *testing.T, order, words int, sentences ...[]int) api.Table {
	t.Helper()
	table, e := gram.Count(order, words, sentences...)
	expect(t, "Count", e)
	return table
}

// isEmpty reports whether a value is the zero value.
func isEmpty[T any](x T) bool {
	var zero T
	return same(x, zero)
}

// same reports whether two values are the same. Nil and empty lists are.
func same(a, b any) bool { return sameValue(reflect.ValueOf(a), reflect.ValueOf(b)) }

func sameValue(a, b reflect.Value) bool {
	switch a.Kind() {
	case reflect.Slice:
		if a.Len() != b.Len() {
			return false
		}
		for i := range a.Len() {
			if !sameValue(a.Index(i), b.Index(i)) {
				return false
			}
		}
		return true
	case reflect.Struct:
		for i := range a.NumField() {
			if !sameValue(a.Field(i), b.Field(i)) {
				return false
			}
		}
		return true
	}
	return a.Equal(b)
}

// clone returns a value in memory of its own.
func clone[T any](x T) T {
	c := reflect.New(reflect.TypeFor[T]()).Elem()
	copyInto(c, reflect.ValueOf(x))
	return c.Interface().(T)
}

func copyInto(to, from reflect.Value) {
	switch from.Kind() {
	case reflect.Slice:
		if from.IsNil() {
			return
		}
		to.Set(reflect.MakeSlice(from.Type(), from.Len(), from.Len()))
		for i := range from.Len() {
			copyInto(to.Index(i), from.Index(i))
		}
	case reflect.Struct:
		for i := range from.NumField() {
			copyInto(to.Field(i), from.Field(i))
		}
	default:
		to.Set(from)
	}
}

// spoil overwrites the memory of a value, also what is behind the ends of lists.
func spoil(x any) { spoilLists(reflect.ValueOf(x)) }

func spoilLists(v reflect.Value) {
	switch v.Kind() {
	case reflect.Slice:
		for i := range v.Cap() {
			element := v.Slice(0, v.Cap()).Index(i)
			spoilLists(element)
			overwrite(element)
		}
	case reflect.Struct:
		for i := range v.NumField() {
			spoilLists(v.Field(i))
		}
	}
}

func overwrite(v reflect.Value) {
	switch v.Kind() {
	case reflect.Int:
		v.SetInt(-99)
	case reflect.Uint32:
		v.SetUint(0xBAD)
	case reflect.String:
		v.SetString("spoiled")
	default:
		v.SetZero()
	}
}

// color is the plan of the chapter's examples.
func color(t *testing.T) api.Plan {
	t.Helper()
	return api.Plan{Slots: []api.Slot{{Name: "color", Values: []string{"red", "blue"}, Least: f(t, "1/4"), Sure: f(t, "3/4")}}, Patience: 1, Prompt: 10, Need: 4}
}

// dialogue returns a dialogue of a plan.
func dialogue(t *testing.T, p api.Plan) *talk.Dialogue {
	t.Helper()
	d, e := talk.Talk(p)
	if e != api.OK || d == nil {
		t.Fatalf("Talk: error %d", e)
	}
	return d
}

// letters returns a model for each of so many symbols, which says only this symbol, once.
func letters(symbols int) []api.Model {
	var models []api.Model
	for k := range symbols {
		say := make([]api.Frac, symbols)
		say[k] = frac.Of(1)
		models = append(models, api.Model{Start: []api.Frac{frac.Of(1)}, Move: [][]api.Frac{{{}}}, End: []api.Frac{frac.Of(1)}, Say: [][]api.Frac{say}})
	}
	return models
}

// spelled returns a setup in which samples are symbols, so that words can be written down as recordings: a sample of 0 is silence, and a sample of 2 to the power k + 2 the symbol k. Each word has one variant, the phones of which say their symbols, numbered from 1 on.
func spelled(t *testing.T, p api.Plan, names []string, words ...[]int) api.Setup {
	t.Helper()
	s := api.Setup{
		Rate:   8,
		Gate:   api.Gate{Block: 1, High: 16, Low: 16, Rise: 1, Fall: 1, Longest: 1000},
		Recipe: api.Recipe{Den: 1, Size: 1, Step: 1, Window: api.WindowFlat, Points: 1, Edges: []int{0, 1}},
		Names:  names,
		Plan:   p,
		Most:   2,
	}
	symbols := 1
	for _, phones := range words {
		for _, k := range phones {
			symbols = max(symbols, k)
		}
		s.Task.Words = append(s.Task.Words, []api.Variant{{Phones: phones, Weight: frac.Of(1)}})
	}
	for k := range symbols {
		s.Book = append(s.Book, []int{32 * (k + 2)})
	}
	s.Task.Phones = letters(symbols)
	s.Task.Language = api.Language{Table: api.Table{Order: 1, Words: len(words)}, By: api.Typed}
	return s
}

// sound returns the samples that say symbols, numbered from 1 on; 0 is silence.
func sound(symbols ...int) []int {
	x := make([]int, len(symbols))
	for i, k := range symbols {
		if k > 0 {
			x[i] = 1 << (k + 1)
		}
	}
	return x
}

// start returns a session of a setup.
func start(t *testing.T, s api.Setup) *talk.Session {
	t.Helper()
	a, e := talk.Start(s)
	if e != api.OK || a == nil {
		t.Fatalf("Start: error %d", e)
	}
	return a
}

// replay is what talk.Replay returns for a recording with the rate of the setup, which must not fail.
func replay(t *testing.T, s api.Setup, x []int) ([]api.Turn, api.Standing) {
	t.Helper()
	turns, standing, e := talk.Replay(s, api.Recording{Rate: s.Rate, Samples: x})
	expect(t, "Replay", e)
	return turns, standing
}

// ints reads integers with blanks between them.
func ints(t *testing.T, s string) []int {
	t.Helper()
	var list []int
	for _, x := range strings.Fields(s) {
		n, err := strconv.Atoi(x)
		if err != nil {
			t.Fatal(err)
		}
		list = append(list, n)
	}
	return list
}
