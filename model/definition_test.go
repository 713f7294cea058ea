// The definitions of the chapter, computed path by path with math/big.

package model_test

import (
	"math/big"
	"slices"

	"earshot/api"
)

// exact is a model, or counts, with numbers of math/big.
type exact struct {
	start []*big.Rat
	move  [][]*big.Rat
	end   []*big.Rat
	say   [][]*big.Rat
}

func exactRow(row []api.Frac) []*big.Rat {
	var list []*big.Rat
	for _, a := range row {
		list = append(list, valueOf(a))
	}
	return list
}

func exactRows(rows [][]api.Frac) [][]*big.Rat {
	var list [][]*big.Rat
	for _, row := range rows {
		list = append(list, exactRow(row))
	}
	return list
}

func exactOf(m api.Model) exact {
	return exact{exactRow(m.Start), exactRows(m.Move), exactRow(m.End), exactRows(m.Say)}
}

// zeros returns n numbers that are 0.
func zeros(n int) []*big.Rat {
	row := make([]*big.Rat, n)
	for i := range row {
		row[i] = new(big.Rat)
	}
	return row
}

// blank returns counts that are 0, for so many states and symbols.
func blank(states, symbols int) exact {
	x := exact{start: zeros(states), end: zeros(states)}
	for range states {
		x.move, x.say = append(x.move, zeros(states)), append(x.say, zeros(symbols))
	}
	return x
}

func add(sum, x *big.Rat)            { sum.Add(sum, x) }
func product(x, y *big.Rat) *big.Rat { return new(big.Rat).Mul(x, y) }

func sumOf(row []*big.Rat) *big.Rat {
	sum := new(big.Rat)
	for _, x := range row {
		add(sum, x)
	}
	return sum
}

// paths returns all lists of n states, in lexicographic order.
func paths(states, n int) [][]int {
	list := [][]int{nil}
	for range n {
		var longer [][]int
		for _, path := range list {
			for i := range states {
				longer = append(longer, append(slices.Clone(path), i))
			}
		}
		list = longer
	}
	return list
}

// beginning returns the weight of a path for the first frames, without the end.
func (x exact) beginning(o, path []int) *big.Rat {
	weight := product(x.start[path[0]], x.say[path[0]][o[0]])
	for t := 1; t < len(path); t++ {
		weight.Mul(weight, product(x.move[path[t-1]][path[t]], x.say[path[t]][o[t]]))
	}
	return weight
}

// rest returns the weight of a continuation: of the states from the frame t on, of which the first one does not count itself.
func (x exact) rest(o []int, t int, path []int) *big.Rat {
	weight := new(big.Rat).SetInt64(1)
	for u := 1; u < len(path); u++ {
		weight.Mul(weight, product(x.move[path[u-1]][path[u]], x.say[path[u]][o[t+u]]))
	}
	return weight.Mul(weight, x.end[path[len(path)-1]])
}

// weight returns the weight of a path.
func (x exact) weight(o, path []int) *big.Rat {
	if len(path) == 0 {
		return new(big.Rat)
	}
	return product(x.beginning(o, path), x.end[path[len(path)-1]])
}

// forward returns the forward weights.
func (x exact) forward(o []int) [][]*big.Rat {
	var rows [][]*big.Rat
	for t := range o {
		row := zeros(len(x.start))
		for _, path := range paths(len(x.start), t+1) {
			add(row[path[t]], x.beginning(o, path))
		}
		rows = append(rows, row)
	}
	return rows
}

// backward returns the backward weights.
func (x exact) backward(o []int) [][]*big.Rat {
	var rows [][]*big.Rat
	for t := range o {
		row := zeros(len(x.start))
		for _, path := range paths(len(x.start), len(o)-t) {
			add(row[path[0]], x.rest(o, t, path))
		}
		rows = append(rows, row)
	}
	return rows
}

// likelihood returns the likelihood.
func (x exact) likelihood(o []int) *big.Rat {
	sum := new(big.Rat)
	for _, path := range paths(len(x.start), len(o)) {
		add(sum, x.weight(o, path))
	}
	return sum
}

// best returns the best path and its weight, no path if there is none.
func (x exact) best(o []int) ([]int, *big.Rat) {
	var best []int
	weight := new(big.Rat)
	for _, path := range paths(len(x.start), len(o)) {
		if w := x.weight(o, path); w.Cmp(weight) > 0 {
			best, weight = path, w
		}
	}
	return best, weight
}

// posterior returns the posterior weights. The likelihood is not 0.
func (x exact) posterior(o []int) [][]*big.Rat {
	var rows [][]*big.Rat
	for t := range o {
		row := zeros(len(x.start))
		for _, path := range paths(len(x.start), len(o)) {
			add(row[path[t]], x.weight(o, path))
		}
		rows = append(rows, quotients(row, x.likelihood(o)))
	}
	return rows
}

// quotients returns the numbers divided by another one.
func quotients(row []*big.Rat, by *big.Rat) []*big.Rat {
	var list []*big.Rat
	for _, x := range row {
		list = append(list, new(big.Rat).Quo(x, by))
	}
	return list
}

// addCounts adds the expected counts of a recording over the allowed paths, and returns the sum of the weights of these. If that is 0, nothing is added.
func (x exact) addCounts(counts exact, o []int, allowed func(path []int) bool) *big.Rat {
	var list [][]int
	sum := new(big.Rat)
	for _, path := range paths(len(x.start), len(o)) {
		if w := x.weight(o, path); w.Sign() > 0 && allowed(path) {
			list = append(list, path)
			add(sum, w)
		}
	}
	for _, path := range list {
		part := new(big.Rat).Quo(x.weight(o, path), sum)
		add(counts.start[path[0]], part)
		for t, i := range path {
			add(counts.say[i][o[t]], part)
			if t > 0 {
				add(counts.move[path[t-1]][i], part)
			}
		}
		add(counts.end[path[len(path)-1]], part)
	}
	return sum
}

// counts returns the expected counts of data, and how many recordings have a positive likelihood.
func (x exact) counts(data [][]int) (exact, int) {
	counts, used := blank(len(x.start), len(x.say[0])), 0
	for _, o := range data {
		if x.addCounts(counts, o, func([]int) bool { return true }).Sign() > 0 {
			used++
		}
	}
	return counts, used
}

// few returns the expected counts of a recording with pruning, and the sum of the weights of the paths that are left.
func (x exact) few(o []int, keep int) (exact, *big.Rat) {
	var kept [][]int
	row := zeros(len(x.start))
	for t := range o {
		next := zeros(len(x.start))
		for j := range next {
			if t == 0 {
				next[j].Set(x.start[j])
			} else {
				for _, i := range kept[t-1] {
					add(next[j], product(row[i], x.move[i][j]))
				}
			}
			next[j].Mul(next[j], x.say[j][o[t]])
		}
		row = next
		kept = append(kept, firstOf(row, keep))
	}
	counts := blank(len(x.start), len(x.say[0]))
	sum := x.addCounts(counts, o, func(path []int) bool {
		for t, i := range path {
			if !slices.Contains(kept[t], i) {
				return false
			}
		}
		return true
	})
	return counts, sum
}

// firstOf returns the places of the greatest numbers, so many as keep says, of equal ones the first ones.
func firstOf(row []*big.Rat, keep int) []int {
	var list []int
	for i := range row {
		list = append(list, i)
	}
	slices.SortStableFunc(list, func(i, j int) int { return row[j].Cmp(row[i]) })
	return list[:min(keep, len(list))]
}

// change returns the model in which each distribution l is replaced by f(l, c), where c are the counts in the same place. For what leaves a state, the end comes last.
func (x exact) change(counts exact, f func(l, c []*big.Rat) []*big.Rat) exact {
	n := len(x.start)
	y := exact{start: f(x.start, counts.start)}
	for i := range n {
		leave := f(append(slices.Clone(x.move[i]), x.end[i]), append(slices.Clone(counts.move[i]), counts.end[i]))
		y.move, y.end = append(y.move, leave[:n]), append(y.end, leave[n])
		y.say = append(y.say, f(x.say[i], counts.say[i]))
	}
	return y
}

// reestimate returns the reestimated model.
func (x exact) reestimate(counts exact) exact {
	return x.change(counts, func(l, c []*big.Rat) []*big.Rat {
		if sumOf(c).Sign() == 0 {
			return l
		}
		return quotients(c, sumOf(c))
	})
}

// coarsen returns the coarsened model.
func (x exact) coarsen(d int64) exact {
	return x.change(x, func(l, _ []*big.Rat) []*big.Rat {
		coarse, missing := zeros(len(l)), new(big.Rat).SetInt64(1)
		for i, w := range l {
			times := product(w, new(big.Rat).SetInt64(d))
			down := new(big.Int).Div(times.Num(), times.Denom())
			coarse[i].SetFrac(down, big.NewInt(d))
			missing.Sub(missing, coarse[i])
		}
		first := firstOf(l, 1)[0]
		add(coarse[first], missing)
		return coarse
	})
}

// train returns the trained model.
func (x exact) train(rounds int, d int64, data [][]int) exact {
	for range rounds {
		counts, _ := x.counts(data)
		x = x.reestimate(counts)
		if d > 0 {
			x = x.coarsen(d)
		}
	}
	return x
}
