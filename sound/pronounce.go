package sound

import (
	"strings"

	"earshot/api"
	"earshot/frac"
	"earshot/lists"
)

// Apply returns all results of applying rules to a list of phones, in the order of pronunciations; ErrLong if one is too long, or if there are too many.
func Apply(r []api.Rewrite, phones []int) ([]api.Form, api.Errno) {
	if !Rules(r) || !arePhones(phones, api.MaxPhones) {
		return nil, api.ErrArg
	}
	return forms(r, []variant{{printed(phones), frac.Of(1)}})
}

// Pronounce returns all pronunciations of a list of words; ErrNone if the lexicon does not have one of them, ErrLong if there are too many choices or results, or if one is too long.
func Pronounce(l api.Lexicon, r []api.Rewrite, words []string) ([]api.Form, api.Errno) {
	if !Valid(l) || !Rules(r) || len(words) > mostWords {
		return nil, api.ErrArg
	}
	spelled, e := spell(l, words)
	if e != api.OK {
		return nil, e
	}
	return forms(r, spelled...)
}

// Weight returns the weight of one pronunciation of words, 0 if it is none; ErrNone if the lexicon does not have one of them, ErrLong if there are too many choices, or if one is too long.
func Weight(l api.Lexicon, r []api.Rewrite, words []string, phones []int) (api.Frac, api.Errno) {
	if !Valid(l) || !Rules(r) || len(words) > mostWords || !arePhones(phones, api.MaxPhones) {
		return api.Frac{}, api.ErrArg
	}
	spelled, e := spell(l, words)
	if e != api.OK {
		return api.Frac{}, e
	}
	return weigh(prepare(r), printed(phones), spelled...), api.OK
}

// spell returns the variants of words; ErrNone if a valid lexicon does not have one of them, ErrLong if there are too many choices of variants, or too many phones in one of them.
func spell(l api.Lexicon, words []string) ([][]variant, api.Errno) {
	var spelled [][]variant
	choices, length := 1, 0
	for _, word := range words {
		variants := variantsOf(entriesOf(l, word))
		if len(variants) == 0 {
			return nil, api.ErrNone
		}
		spelled = append(spelled, variants)
		choices = min(choices*len(variants), api.MaxForms+1)
		length += longest(variants)
	}
	if choices > api.MaxForms || length > api.MaxPhones {
		return nil, api.ErrLong
	}
	return spelled, api.OK
}

func variantsOf(entries []api.Entry) []variant {
	return lists.Map(entries, func(x api.Entry) variant { return variant{printed(x.Phones), frac.Canon(x.Weight)} })
}

// longest returns the number of phones of the longest variant.
func longest(variants []variant) int {
	most := 0
	for _, v := range variants {
		most = max(most, len(v.phones))
	}
	return most
}

// forms returns all pronunciations of words; ErrLong if one is too long, or if there are too many.
func forms(r []api.Rewrite, words ...[]variant) ([]api.Form, api.Errno) {
	long := false
	results := pronounce(prepare(r), func(text string, others map[string]api.Frac) bool {
		// Texts that are kept together go on alike, so there are at least as many results.
		long = long || len(text) > api.MaxPhones || len(others) > api.MaxForms
		return !long
	}, words)
	if long || len(results) > api.MaxForms {
		return nil, api.ErrLong
	}
	var list []api.Form
	for text, weight := range results {
		list = append(list, api.Form{Phones: phonesOf(text), Weight: weight})
	}
	rankForms(list)
	return list, api.OK
}

// weigh returns the weight with which words are pronounced as a target.
func weigh(b rulebook, target string, words ...[]variant) api.Frac {
	return pronounce(b, func(text string, others map[string]api.Frac) bool { return strings.HasPrefix(target, text) }, words)[target]
}

// pronounce returns the weights of all texts that can be written for words, each of which has some variants. It goes on only with those texts that keep accepts among others at the same place.
func pronounce(b rulebook, keep func(text string, others map[string]api.Frac) bool, words [][]variant) map[string]api.Frac {
	s := speaker[string, api.Frac]{b, func(to, from map[string]api.Frac, c choice) map[string]api.Frac {
		if to == nil {
			to = map[string]api.Frac{}
		}
		for written, weight := range from {
			if text := written + c.write; keep(text, to) {
				to[text] = plus(to[text], times(weight, c.weight))
			}
		}
		return to
	}}
	now := map[place]map[string]api.Frac{s.start(): {"": frac.Of(1)}}
	for _, variants := range words {
		now = s.say(now, variants)
	}
	return s.finish(now)
}

// plus returns the sum of two weights. The first one is often 0.
func plus(a, b api.Frac) api.Frac {
	if len(a.N) == 0 {
		return b
	}
	return frac.Add(a, b)
}

// times returns the product of two weights. The second one is often 1, the only weight without a denominator.
func times(a, b api.Frac) api.Frac {
	if len(b.D) == 0 {
		return a
	}
	return frac.Mul(a, b)
}
