package lattice

import (
	"earshot/api"
	"earshot/frac"
	"earshot/lists"
)

// branch is a place in the tree of all variants of words: behind phones with which some of them begin.
type branch struct {
	phone *phone // the last one of these phones
	ends  []spelled
	next  map[int]*branch // by the number of the next phone
}

// spelled is a variant that has all of its phones.
type spelled struct {
	word    int
	variant int
	weight  api.Frac
}

// spell returns the tree of the variants of a task. Those with the weight 0 explain nothing, and are left out.
func spell(t api.Task) *branch {
	phones := lists.Map(t.Phones, phoneOf)
	root := &branch{next: map[int]*branch{}}
	for i, word := range t.Words {
		for k, v := range word {
			if frac.Sign(v.Weight) > 0 {
				end := root.grow(v.Phones, phones)
				end.ends = append(end.ends, spelled{i + 1, k, v.Weight})
			}
		}
	}
	return root
}

// grow returns the branch behind some more phones, which may be new.
func (b *branch) grow(spelling []int, phones []*phone) *branch {
	for _, n := range spelling {
		if b.next[n] == nil {
			b.next[n] = &branch{phone: phones[n-1], next: map[int]*branch{}}
		}
		b = b.next[n]
	}
	return b
}

// walk lets pass go through the phones of all branches behind a branch, with what it made of the phones before. As long as this is something, it is given to visit, with the variants that end there. It is false if visit was false once, which ends the walk.
func walk[T any](b *branch, begins []T, pass func(p *phone, begins []T) []T, visit func(variants []spelled, ends []T) bool) bool {
	for _, next := range b.next {
		ends := pass(next.phone, begins)
		if len(ends) > 0 && !(visit(next.ends, ends) && walk(next, ends, pass, visit)) {
			return false
		}
	}
	return true
}
