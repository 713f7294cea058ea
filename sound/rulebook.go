package sound

import (
	"iter"
	"slices"

	"earshot/api"
	"earshot/frac"
)

// rulebook has valid rules, in order.
type rulebook struct {
	rules  []rule
	heeded [api.MaxPhone + 1]bool // the phones, and 0 for the beginning, that are to the left of rules
}

// rule is a rule, with what is the same wherever it matches.
type rule struct {
	from   string
	to     string
	left   []int
	right  []int
	weight api.Frac
	rest   api.Frac // the weight with which it is not applied
}

// place is where the rules stop in a list of phones: the phone before, and the phones that wait, because what becomes of the first one of them depends on others that may follow. What will be written depends on the place and on these others.
type place struct {
	before  int
	waiting string
}

// unheeded stands for all phones that are not to the left of any rule: places that differ only in these are the same.
const unheeded = -1

// passage is a printed list of phones, with the phone before it. Others may follow if it has not ended.
type passage struct {
	before int
	phones string
	ended  bool
	found  []int // what find returns for each index, and for the one behind the phones
}

// What find returns if it does not return the number of a rule.
const (
	none      = -1 // no rule matches
	undecided = -2 // it depends on what follows
)

// choice is a way to go on in a passage: so many phones are read, others are written for them, with a weight.
type choice struct {
	read   int
	write  string
	weight api.Frac
}

// prepare returns the rulebook of valid rules.
func prepare(r []api.Rewrite) rulebook {
	var b rulebook
	for _, x := range r {
		b.rules = append(b.rules, rule{printed(x.From), printed(x.To), x.Left, x.Right, frac.Canon(x.Weight), frac.Sub(frac.Of(1), x.Weight)})
		for _, phone := range x.Left {
			b.heeded[phone] = true
		}
	}
	return b
}

// heed returns a phone, or 0, as it matters to rules behind it.
func (b rulebook) heed(phone int) int {
	if b.heeded[phone] {
		return phone
	}
	return unheeded
}

// start returns the place before the first phone.
func (b rulebook) start() place { return place{before: b.heed(0)} }

// passage returns the passage from a place on, with other phones behind those that wait there.
func (b rulebook) passage(at place, phones string, ended bool) passage {
	p := passage{before: at.before, phones: at.waiting + phones, ended: ended}
	for i := range len(p.phones) + 1 {
		p.found = append(p.found, b.find(p, i))
	}
	return p
}

// stop returns the place at an index of a passage.
func (b rulebook) stop(p passage, i int) place {
	if i == 0 {
		return place{p.before, p.phones}
	}
	return place{b.heed(int(p.phones[i-1])), p.phones[i:]}
}

// find returns the number of the first rule that matches a passage at an index.
func (b rulebook) find(p passage, i int) int {
	if i == len(p.phones) {
		return undecided
	}
	before := b.stop(p, i).before
search:
	for n, r := range b.rules {
		if !allows(r.left, before) {
			continue
		}
		for k := range len(r.from) {
			switch {
			case i+k < len(p.phones):
				if p.phones[i+k] != r.from[k] {
					continue search
				}
			case p.ended:
				continue search
			default:
				return undecided
			}
		}
		behind, end := 0, i+len(r.from)
		if end < len(p.phones) {
			behind = int(p.phones[end])
		} else if !p.ended && len(r.right) > 0 {
			return undecided
		}
		if allows(r.right, behind) {
			return n
		}
	}
	return none
}

// allows reports whether a phone, or 0, may be beside a rule.
func allows(context []int, phone int) bool {
	_, found := slices.BinarySearch(context, phone)
	return found || len(context) == 0
}

// choices yields the ways to go on at an index of a passage where it is decided which rule matches: to apply it, and not to apply it. Where none matches, the only way writes all phones up to the next index where one may match.
func (b rulebook) choices(p passage, i int) iter.Seq[choice] {
	return func(yield func(c choice) bool) {
		if p.found[i] != none {
			r := b.rules[p.found[i]]
			if yield(choice{len(r.from), r.to, r.weight}) && frac.Sign(r.rest) > 0 {
				yield(choice{1, p.phones[i : i+1], r.rest})
			}
			return
		}
		end := i
		for p.found[end] == none {
			end++
		}
		yield(choice{end - i, p.phones[i:end], frac.Of(1)})
	}
}
