package sound

import (
	"earshot/api"
	"earshot/frac"
)

// speaker applies rules to words, one after the other. What it keeps for each place where the rules stop is a map: of all that was written up to there, with weights, or only of how much was written. extend adds to such a map what another one becomes by a choice; it takes nil for an empty map, and returns a map.
type speaker[K comparable, V any] struct {
	rulebook
	extend func(to, from map[K]V, c choice) map[K]V
}

// variant is a way to pronounce a word, its phones printed.
type variant struct {
	phones string
	weight api.Frac
}

// unchanged is the choice to read and to write nothing.
func unchanged() choice { return choice{weight: frac.Of(1)} }

// say returns what is written up to each place behind a word, for what is written before it.
func (s speaker[K, V]) say(now map[place]map[K]V, variants []variant) map[place]map[K]V {
	next := map[place]map[K]V{}
	for at, written := range now {
		for _, v := range variants {
			chosen := s.extend(nil, written, choice{weight: v.weight})
			s.follow(s.passage(at, v.phones, false), chosen, func(at place, written map[K]V) {
				next[at] = s.extend(next[at], written, unchanged())
			})
		}
	}
	return next
}

// finish returns what is written in the end if no word follows.
func (s speaker[K, V]) finish(now map[place]map[K]V) map[K]V {
	var all map[K]V
	for at, written := range now {
		s.follow(s.passage(at, "", true), written, func(_ place, written map[K]V) {
			all = s.extend(all, written, unchanged())
		})
	}
	return all
}

// follow goes through a passage, and calls arrive with each place where the rules stop, and with what is written up to there.
func (s speaker[K, V]) follow(p passage, written map[K]V, arrive func(at place, written map[K]V)) {
	reached := make([]map[K]V, len(p.found))
	reached[0] = written
	for i, found := range p.found {
		here := reached[i]
		if len(here) == 0 {
			continue
		}
		reached[i] = nil // the maps of a long passage would need much memory
		if found == undecided {
			arrive(s.stop(p, i), here)
			continue
		}
		for c := range s.choices(p, i) {
			reached[i+c.read] = s.extend(reached[i+c.read], here, c)
		}
	}
}
