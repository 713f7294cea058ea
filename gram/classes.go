package gram

import (
	"slices"

	"earshot/api"
	"earshot/checks"
	"earshot/frac"
	"earshot/lists"
	"earshot/whole"
)

// CheckClasses returns ErrArg for classes that are not valid.
func CheckClasses(c api.Classes) api.Errno { return checks.Argument(areClasses(c)) }

func areClasses(c api.Classes) bool {
	if len(c.Of) != len(c.In) || !whole.Within(len(c.Of), 1, api.MaxWords) || !whole.AllWithin(c.Of, 1, api.MaxWords) {
		return false
	}
	members := map[int][]api.Frac{}
	for i, class := range c.Of {
		members[class] = append(members[class], c.In[i])
	}
	for _, weights := range members {
		if !frac.Distribution(weights) {
			return false
		}
	}
	return true
}

// Classed returns the weight by classes of a word, or of the mark, after a history of words; ErrArg also if the language model does not have all classes.
func Classed(l api.Language, c api.Classes, history []int, w int) (api.Frac, api.Errno) {
	words := len(c.Of)
	fits := whole.AllWithin(c.Of, 1, l.Table.Words) && isHistory(history, l.Table.Order, words) && whole.Within(w, 0, words)
	if e := checks.First(Check(l), CheckClasses(c), checks.Argument(fits)); e != api.OK {
		return api.Frac{}, e
	}
	of := slices.Concat([]int{0}, c.Of) // the mark stands for itself
	classes := lists.Map(history, func(n int) int { return of[n] })
	weight := smooth(l, classes).weight(classes, of[w])
	if w > 0 {
		weight = frac.Mul(weight, c.In[w-1])
	}
	return weight, api.OK
}
