package sound

import (
	"cmp"
	"slices"

	"earshot/api"
	"earshot/frac"
	"earshot/whole"
)

// Rules reports whether rules are as defined.
func Rules(r []api.Rewrite) bool {
	return len(r) <= api.MaxRules && !slices.ContainsFunc(r, func(x api.Rewrite) bool { return !isRule(x) })
}

func isRule(r api.Rewrite) bool {
	return len(r.From) > 0 && arePhones(r.From, mostRewritten) && arePhones(r.To, mostRewritten) &&
		isContext(r.Left) && isContext(r.Right) &&
		frac.Sign(r.Weight) > 0 && frac.Cmp(r.Weight, frac.Of(1)) <= 0
}

func isContext(list []int) bool {
	return len(list) <= api.MaxPhone && whole.AllWithin(list, 0, api.MaxPhone) && increasing(list, cmp.Compare[int])
}
