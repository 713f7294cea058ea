package talk

import (
	"slices"

	"earshot/api"
	"earshot/checks"
	"earshot/decode"
	"earshot/feature"
	"earshot/frac"
	"earshot/lists"
	"earshot/wave"
	"earshot/whole"
	"earshot/words"
)

// Check returns the error of a setup: ErrLong if a part of it exceeds its bound, ErrArg if it is not as defined.
func Check(s api.Setup) api.Errno {
	_, gate := wave.Listen(s.Gate)
	e := checks.First(decode.Check(s.Task), checkCoding(s), gate, checks.Argument(isPlan(s.Plan) &&
		whole.Within(s.Rate, 1, api.MaxRate) && canCluster(s.Most, s.Limit) && words.Names(s.Names)))
	if e != api.OK {
		return e
	}
	symbols := len(s.Task.Phones[0].Say[0])
	return checks.Argument(symbols == len(s.Book) && len(s.Names) == len(s.Task.Words))
}

// checkCoding returns the error of the recipe and the codebook of a setup. They fit if they make a symbol of one frame.
func checkCoding(s api.Setup) api.Errno {
	var vectors [][]int
	valid := feature.Valid(s.Recipe)
	if valid {
		vectors, _ = feature.Extract(api.Recording{Rate: 1, Samples: make([]int, s.Recipe.Size)}, s.Recipe)
	}
	_, e := feature.Quantize(vectors, s.Book)
	return checks.First(e, checks.Argument(valid && !s.Recipe.Center))
}

// ownSetup returns a copy of a setup that is as defined.
func ownSetup(s api.Setup) api.Setup {
	s.Recipe.Edges = slices.Clone(s.Recipe.Edges)
	s.Book = lists.Map(s.Book, slices.Clone[[]int])
	s.Task = ownTask(s.Task)
	s.Names = slices.Clone(s.Names)
	s.Plan = ownPlan(s.Plan)
	s.Limit = frac.Canon(s.Limit)
	return s
}

func ownTask(t api.Task) api.Task {
	own := api.Task{Phones: lists.Map(t.Phones, ownModel), Language: t.Language}
	for _, word := range t.Words {
		own.Words = append(own.Words, lists.Map(word, ownVariant))
	}
	own.Language.Table, _ = ownTable(t.Language.Table)
	own.Language.Amount, own.Language.Mix = frac.Canon(t.Language.Amount), ownRow(t.Language.Mix)
	return own
}

func ownModel(m api.Model) api.Model {
	return api.Model{Start: ownRow(m.Start), Move: lists.Map(m.Move, ownRow), End: ownRow(m.End), Say: lists.Map(m.Say, ownRow)}
}

func ownVariant(v api.Variant) api.Variant {
	return api.Variant{Phones: slices.Clone(v.Phones), Weight: frac.Canon(v.Weight)}
}

func ownRow(row []api.Frac) []api.Frac { return lists.Map(row, frac.Canon) }
