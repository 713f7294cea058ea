package talk

import (
	"slices"

	"earshot/api"
	"earshot/frac"
	"earshot/lists"
	"earshot/whole"
	"earshot/words"
)

// The bounds of plans.
const (
	mostPatience = 100
	mostPrompt   = 10000
)

// isPlan reports whether a plan is as defined.
func isPlan(p api.Plan) bool {
	// Names and values are different from each other just as they are from yes and no.
	names, values := []string{yes, no}, []string{yes, no}
	for _, s := range p.Slots {
		if !whole.Within(len(s.Values), 1, api.MaxValues) || !ascend(api.Frac{}, s.Least, s.Sure, frac.Of(1)) {
			return false
		}
		names, values = append(names, s.Name), append(values, s.Values...)
	}
	return whole.Within(len(p.Slots), 1, api.MaxSlots) && words.Names(names) && words.Names(values) &&
		whole.Within(p.Patience, 0, mostPatience) && whole.Within(p.Prompt, 0, mostPrompt) && whole.Within(p.Need, 0, p.Prompt)
}

// slotOf returns the index of the slot of a plan with a value, -1 if there is none.
func slotOf(p api.Plan, value string) int {
	return slices.IndexFunc(p.Slots, func(s api.Slot) bool { return slices.Contains(s.Values, value) })
}

// ownPlan returns a copy of a plan.
func ownPlan(p api.Plan) api.Plan {
	p.Slots = lists.Map(p.Slots, func(s api.Slot) api.Slot {
		return api.Slot{Name: s.Name, Values: slices.Clone(s.Values), Least: frac.Canon(s.Least), Sure: frac.Canon(s.Sure)}
	})
	return p
}
