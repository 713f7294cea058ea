package gram

import (
	"slices"

	"earshot/api"
	"earshot/checks"
	"earshot/frac"
	"earshot/whole"
)

// Check returns the error of a language model: ErrLong if its table has too many n-grams, ErrArg if it is not valid.
func Check(l api.Language) api.Errno {
	if e := CheckTable(l.Table); e != api.OK {
		return e
	}
	return checks.Argument(isSmoothed(l))
}

// isSmoothed reports whether the smoothing of a language model is as defined, if its table is valid.
func isSmoothed(l api.Language) bool {
	switch l.By {
	case api.Added:
		return frac.Sign(l.Amount) > 0 && len(l.Mix) == 0
	case api.Mixed:
		return frac.Sign(l.Amount) == 0 && len(l.Mix) == l.Table.Order+1 && frac.Sign(l.Mix[0]) > 0 && frac.Distribution(l.Mix)
	case api.Discounted:
		return frac.Sign(l.Amount) > 0 && frac.Cmp(l.Amount, frac.Of(1)) < 0 && len(l.Mix) == 0
	case api.Typed:
		return frac.Sign(l.Amount) == 0 && len(l.Mix) == 0
	}
	return false
}

// Weight returns the weight of a word, or of the mark, after a history.
func Weight(l api.Language, history []int, w int) (api.Frac, api.Errno) {
	if e := checkStep(l, history, w, 0); e != api.OK {
		return api.Frac{}, e
	}
	return smooth(l, history).weight(history, w), api.OK
}

// Row returns the weights of the mark and of all words after a history.
func Row(l api.Language, history []int) ([]api.Frac, api.Errno) {
	if e := checkStep(l, history, 0, 0); e != api.OK {
		return nil, e
	}
	s := smooth(l, history)
	row := make([]api.Frac, l.Table.Words+1)
	for w := range row {
		row[w] = s.weight(history, w)
	}
	return row, api.OK
}

// Next returns the history after w follows a history; ErrArg also if w is the mark.
func Next(l api.Language, history []int, w int) ([]int, api.Errno) {
	if e := checkStep(l, history, w, 1); e != api.OK {
		return nil, e
	}
	return slices.Concat(history, []int{w})[1:], api.OK
}

// checkStep returns the error of a language model, of a history, and of a number after it, which is at least least.
func checkStep(l api.Language, history []int, w, least int) api.Errno {
	words := l.Table.Words
	return checks.First(Check(l), checks.Argument(isHistory(history, l.Table.Order, words) && whole.Within(w, least, words)))
}

func isHistory(history []int, order, words int) bool {
	return len(history) == order-1 && whole.AllWithin(history, 0, words)
}
