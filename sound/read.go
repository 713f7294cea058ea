package sound

import (
	"maps"
	"slices"
	"strings"

	"earshot/api"
	"earshot/lists"
	"earshot/whole"
)

// Read returns the readings of a list of phones with at most so many words; ErrLong if there are too many, or if the lexicon has too many entries.
func Read(l api.Lexicon, r []api.Rewrite, phones []int, most int) ([]api.Reading, api.Errno) {
	if !Valid(l) || !Rules(r) || !arePhones(phones, api.MaxPhones) || !whole.Within(most, 0, mostRead) {
		return nil, api.ErrArg
	}
	if len(l.Entries) > api.MaxSearch {
		return nil, api.ErrLong
	}
	s := newSearch(l, r, printed(phones))
	s.explore(nil, map[place]positions{s.start(): {0: true}}, most)
	if len(s.found) > api.MaxForms {
		return nil, api.ErrLong
	}
	readings := lists.Map(s.found, s.reading)
	rank(readings, func(x api.Reading) (api.Frac, []string) { return x.Weight, x.Words })
	return readings, api.OK
}

// search finds the lists of words that can be pronounced as a target. It needs no weights for this.
type search struct {
	speaker[int, bool]
	target  string
	lexicon []word
	routes  map[stage]positions
	found   [][]word
}

type word struct {
	name     string
	variants []variant
}

// positions are the numbers of phones of the target that may be written so far.
type positions = map[int]bool

// stage is a place, and how many words may follow at most.
type stage struct {
	place
	left int
}

func newSearch(l api.Lexicon, r []api.Rewrite, target string) *search {
	extend := func(to, from positions, c choice) positions {
		if to == nil {
			to = positions{}
		}
		for n := range from {
			if strings.HasPrefix(target[n:], c.write) {
				to[n+len(c.write)] = true
			}
		}
		return to
	}
	s := search{speaker: speaker[int, bool]{prepare(r), extend}, target: target, routes: map[stage]positions{}}
	for entries := range runs(l.Entries, sameWord) {
		s.lexicon = append(s.lexicon, word{entries[0].Word, variantsOf(entries)})
	}
	return &s
}

// reading returns the reading with some words.
func (s *search) reading(words []word) api.Reading {
	variants := lists.Map(words, func(w word) []variant { return w.variants })
	return api.Reading{
		Words:  lists.Map(words, func(w word) string { return w.name }),
		Weight: weigh(s.rulebook, s.target, variants...),
	}
}

// explore finds the lists that begin with some words, behind which the positions are known, and that have at most so many words more. It stops when there are too many.
func (s *search) explore(words []word, now map[place]positions, left int) {
	if s.finish(now)[len(s.target)] {
		s.found = append(s.found, slices.Clone(words))
	}
	if left == 0 {
		return
	}
	for _, w := range s.lexicon {
		if len(s.found) > api.MaxForms {
			return
		}
		if next := s.promising(s.say(now, w.variants), left-1); len(next) > 0 {
			s.explore(append(words, w), next, left-1)
		}
	}
}

// promising removes the positions from which at most so many words more do not lead to the end of the target, so that the search goes only where it finds something.
func (s *search) promising(now map[place]positions, left int) map[place]positions {
	for at, written := range now {
		routes := s.route(stage{at, left})
		maps.DeleteFunc(written, func(n int, _ bool) bool { return !routes[n] })
		if len(written) == 0 {
			delete(now, at)
		}
	}
	return now
}

// route returns the positions from which the words that may follow at a stage can lead to the end of the target.
func (s *search) route(from stage) positions {
	if known, ok := s.routes[from]; ok {
		return known
	}
	all := positions{}
	maps.Copy(all, s.back(s.passage(from.place, "", true), func(place) positions { return positions{len(s.target): true} }))
	if from.left > 0 {
		for _, w := range s.lexicon {
			for _, v := range w.variants {
				maps.Copy(all, s.back(s.passage(from.place, v.phones, false), func(at place) positions { return s.route(stage{at, from.left - 1}) }))
			}
		}
	}
	s.routes[from] = all
	return all
}

// back returns the positions at the beginning of a passage that lead to one of those that ends returns for the places where the rules stop.
func (s *search) back(p passage, ends func(at place) positions) positions {
	leading := make([]positions, len(p.found))
	for i := len(p.found) - 1; i >= 0; i-- {
		if p.found[i] == undecided {
			leading[i] = ends(s.stop(p, i))
			continue
		}
		leading[i] = positions{}
		for c := range s.choices(p, i) {
			for n := range leading[i+c.read] {
				if strings.HasSuffix(s.target[:n], c.write) {
					leading[i][n-len(c.write)] = true
				}
			}
		}
	}
	return leading[0]
}
