package sound_test

import (
	"math"
	"math/big"
	"math/rand"
	"slices"
	"strconv"
	"strings"
	"testing"

	"earshot/api"
	"earshot/frac"
	"earshot/sound"
)

// bigOf returns the number with the given digits.
func bigOf(digits []uint32) *big.Int {
	n := new(big.Int)
	for i := len(digits) - 1; i >= 0; i-- {
		n.Lsh(n, 32).Or(n, big.NewInt(int64(digits[i])))
	}
	return n
}

// valueOf returns the value of a, computed without the program.
func valueOf(a api.Frac) *big.Rat {
	n, d := bigOf(a.N), bigOf(a.D)
	if d.Sign() == 0 {
		d.SetInt64(1)
	}
	if a.Neg {
		n.Neg(n)
	}
	return new(big.Rat).SetFrac(n, d)
}

// isCanonical reports whether a is canonical, computed without the program.
func isCanonical(a api.Frac) bool {
	trimmed := func(digits []uint32) bool { return len(digits) == 0 || digits[len(digits)-1] != 0 }
	x := valueOf(a)
	whole := x.IsInt() && len(a.D) == 0
	return trimmed(a.N) && trimmed(a.D) && a.Neg == (x.Sign() < 0) && bigOf(a.N).CmpAbs(x.Num()) == 0 && (whole || bigOf(a.D).Cmp(x.Denom()) == 0 && !x.IsInt())
}

// f reads a number.
func f(t *testing.T, s string) api.Frac {
	t.Helper()
	a, e := frac.Parse(s)
	if e != api.OK {
		t.Fatalf("%s: error %d", s, e)
	}
	return a
}

// entry is an entry of a lexicon.
func entry(t *testing.T, word, weight string, phones ...int) api.Entry {
	t.Helper()
	return api.Entry{Word: word, Phones: phones, Weight: f(t, weight)}
}

func lexicon(entries ...api.Entry) api.Lexicon { return api.Lexicon{Entries: entries} }

// example is the lexicon of the chapter's examples.
func example(t *testing.T) api.Lexicon {
	t.Helper()
	return lexicon(entry(t, "a", "1/2", 1), entry(t, "a", "1/2", 2), entry(t, "b", "1", 3))
}

// toFour is the rule r of the chapter's examples.
func toFour(t *testing.T) []api.Rewrite {
	t.Helper()
	return []api.Rewrite{{From: []int{1}, To: []int{4}, Right: []int{3}, Weight: f(t, "1/3")}}
}

// deleting returns rules that delete phones with a weight.
func deleting(t *testing.T, weight string, phones ...int) []api.Rewrite {
	t.Helper()
	var list []api.Rewrite
	for _, phone := range phones {
		list = append(list, api.Rewrite{From: []int{phone}, Weight: f(t, weight)})
	}
	return list
}

// made is what Make returns, which must not fail.
func made(t *testing.T, entries ...api.Entry) api.Lexicon {
	t.Helper()
	l, e := sound.Make(entries)
	if e != api.OK {
		t.Fatalf("Make: error %d", e)
	}
	return l
}

// times returns a phone n times.
func times(n, phone int) []int { return slices.Repeat([]int{phone}, n) }

// upTo returns the numbers from one to another.
func upTo(from, to int) []int {
	var list []int
	for n := from; n <= to; n++ {
		list = append(list, n)
	}
	return list
}

// spelled writes a list of phones.
func spelled(phones []int) string {
	var list []string
	for _, phone := range phones {
		list = append(list, strconv.Itoa(phone))
	}
	return strings.Join(list, " ")
}

// showForms writes forms as the chapter does.
func showForms(forms []api.Form) string {
	var list []string
	for _, x := range forms {
		list = append(list, spelled(x.Phones)+" ("+valueOf(x.Weight).RatString()+")")
	}
	return strings.Join(list, ", ")
}

// showReadings writes readings as the chapter does.
func showReadings(readings []api.Reading) string {
	var list []string
	for _, x := range readings {
		list = append(list, strings.Join(x.Words, " ")+" ("+valueOf(x.Weight).RatString()+")")
	}
	return strings.Join(list, ", ")
}

// showLexicon writes the entries of a lexicon.
func showLexicon(l api.Lexicon) string {
	var list []string
	for _, x := range l.Entries {
		list = append(list, x.Word+": "+spelled(x.Phones)+" ("+valueOf(x.Weight).RatString()+")")
	}
	return strings.Join(list, ", ")
}

// total returns the sum of the weights of forms.
func total(forms []api.Form) *big.Rat {
	sum := new(big.Rat)
	for _, x := range forms {
		sum.Add(sum, valueOf(x.Weight))
	}
	return sum
}

func isOne(x *big.Rat) bool { return x.Cmp(big.NewRat(1, 1)) == 0 }

// fraction returns n / d, sometimes with common divisors and digits 0 at the end.
func fraction(r *rand.Rand, n, d int) api.Frac {
	times := 1 + r.Intn(3)
	a := api.Frac{N: []uint32{uint32(n * times)}, D: []uint32{uint32(d * times)}}
	if r.Intn(3) == 0 {
		a.N, a.D = append(a.N, 0), append(a.D, 0, 0)
	}
	return a
}

// randomPhones returns a list of at most so many phones, which are from 1 to 3.
func randomPhones(r *rand.Rand, most int) []int {
	list := make([]int, r.Intn(most+1))
	for i := range list {
		list[i] = 1 + r.Intn(3)
	}
	return list
}

// randomContext returns a list for one side of a rule, which is often empty.
func randomContext(r *rand.Rand) []int {
	var list []int
	if r.Intn(2) == 0 {
		return nil
	}
	for n := range 4 {
		if r.Intn(2) == 0 {
			list = append(list, n)
		}
	}
	return list
}

// randomRules returns at most so many rules.
func randomRules(r *rand.Rand, most int) []api.Rewrite {
	list := make([]api.Rewrite, r.Intn(most+1))
	for i := range list {
		d := 1 + r.Intn(4)
		list[i] = api.Rewrite{From: append(randomPhones(r, r.Intn(4)), 1+r.Intn(3)), To: randomPhones(r, 2), Left: randomContext(r), Right: randomContext(r), Weight: fraction(r, 1+r.Intn(d), d)}
	}
	return list
}

// randomEntries returns entries of so many words, with at most two variants each of at most so many phones, in any order.
func randomEntries(r *rand.Rand, words, phones int) []api.Entry {
	var list []api.Entry
	for n := range words {
		for range 1 + r.Intn(2) {
			list = append(list, api.Entry{Word: string(rune('a' + n)), Phones: randomPhones(r, phones), Weight: fraction(r, 1+r.Intn(4), 1+r.Intn(3))})
		}
	}
	r.Shuffle(len(list), func(i, j int) { list[i], list[j] = list[j], list[i] })
	return list
}

// randomLexicon returns a valid lexicon with so many words.
func randomLexicon(t *testing.T, r *rand.Rand, words, phones int) api.Lexicon {
	t.Helper()
	return made(t, randomEntries(r, words, phones)...)
}

// randomWords returns at most so many of the first words of random lexicons.
func randomWords(r *rand.Rand, words, most int) []string {
	list := make([]string, r.Intn(most+1))
	for i := range list {
		list[i] = string(rune('a' + r.Intn(words)))
	}
	return list
}

func isZero(a api.Frac) bool { return !a.Neg && len(a.N) == 0 && len(a.D) == 0 }

// edgeInts returns numbers at the edges of the ranges of this layer.
func edgeInts() []int {
	list := []int{0, 1, 4, 5, 40, 41, 200, 201, 255, 256, 257, 400, 401, 456, math.MaxInt}
	for _, n := range slices.Clone(list) {
		list = append(list, -n)
	}
	return append(list, math.MinInt)
}

// wrongPhones returns numbers that are no phones.
func wrongPhones() []int {
	return slices.DeleteFunc(edgeInts(), func(n int) bool { return 1 <= n && n <= 200 })
}
