package lattice

import (
	"slices"

	"earshot/api"
	"earshot/checks"
	"earshot/decode"
	"earshot/frac"
	"earshot/whole"
)

// Make returns the lattice of a task and a recording; ErrLong if it would have too many arcs.
func Make(t api.Task, o []int) (api.Lattice, api.Errno) {
	if e := checks.First(decode.Check(t), checks.Length(len(o), api.MaxFrames)); e != api.OK {
		return api.Lattice{}, e
	}
	if symbols := len(t.Phones[0].Say[0]); !whole.AllWithin(o, 0, symbols-1) {
		return api.Lattice{}, api.ErrArg
	}
	words := spell(t)
	// It takes little time to find out which arcs there are, and much to compute their weights.
	ends, e := furthest(words, o)
	if e != api.OK {
		return api.Lattice{}, e
	}
	l := api.Lattice{Frames: len(o)}
	for from, to := range ends {
		l.Arcs = append(l.Arcs, arcsFrom(words, o, from, to)...)
	}
	return l, api.OK
}

// furthest returns, for each frame, the greatest To of the arcs from it, or the frame itself if there are none; ErrLong if there are too many arcs.
func furthest(words *branch, o []int) ([]int, api.Errno) {
	last := make([]int, len(o))
	arcs := 0
	for from := range o {
		last[from] = from
		pass := func(p *phone, begins []bool) []bool { return p.outline.pass(begins, o[from:]) }
		fits := walk(words, []bool{true}, pass, func(variants []spelled, ends []bool) bool {
			for length, explains := range ends {
				if explains && len(variants) > 0 {
					arcs += len(variants)
					last[from] = max(last[from], from+length)
				}
			}
			return arcs <= api.MaxArcs
		})
		if !fits {
			return nil, api.ErrLong
		}
	}
	return last, api.OK
}

// arcsFrom returns the arcs from a frame, the last one of which ends before another frame.
func arcsFrom(words *branch, o []int, from, to int) []api.Arc {
	var arcs []api.Arc
	pass := func(p *phone, begins []api.Frac) []api.Frac { return p.pass(begins, o[from:to]) }
	walk(words, []api.Frac{frac.Of(1)}, pass, func(variants []spelled, ends []api.Frac) bool {
		for length, w := range ends {
			if frac.Sign(w) == 0 {
				continue
			}
			for _, v := range variants {
				arcs = append(arcs, api.Arc{From: from, To: from + length, Word: v.word, Variant: v.variant, Weight: frac.Mul(v.weight, w)})
			}
		}
		return true
	})
	slices.SortFunc(arcs, compareArcs)
	return arcs
}
