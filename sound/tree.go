package sound

import (
	"slices"

	"earshot/api"
	"earshot/frac"
)

// Tree returns the nodes of the tree of a lexicon.
func Tree(l api.Lexicon) ([]api.Node, api.Errno) {
	if !Valid(l) {
		return nil, api.ErrArg
	}
	return tree(l), api.OK
}

// tree returns the nodes of the tree of a valid lexicon. Of sorted lists, each one shares its first phones with the list before, or begins with nodes that no list had before; so the nodes are made in their order.
func tree(l api.Lexicon) []api.Node {
	nodes := []api.Node{{Parent: -1}}
	path := []int{0} // the nodes from the root to the list before
	var before []int
	for _, end := range orderByPhones(l.Entries) {
		entry := l.Entries[end]
		path = path[:1+shared(before, entry.Phones)]
		for _, phone := range entry.Phones[len(path)-1:] {
			nodes = append(nodes, api.Node{Phone: phone, Parent: path[len(path)-1]})
			path = append(path, len(nodes)-1)
		}
		last := path[len(path)-1]
		nodes[last].Ends = append(nodes[last].Ends, end)
		for _, n := range path {
			if frac.Cmp(entry.Weight, nodes[n].Best) > 0 {
				nodes[n].Best = frac.Canon(entry.Weight)
			}
		}
		before = entry.Phones
	}
	return nodes
}

// orderByPhones returns the indexes of entries in the order of their lists of phones; those with equal lists are increasing.
func orderByPhones(entries []api.Entry) []int {
	order := make([]int, len(entries))
	for i := range order {
		order[i] = i
	}
	slices.SortStableFunc(order, func(i, j int) int { return slices.Compare(entries[i].Phones, entries[j].Phones) })
	return order
}

// shared returns how many elements two lists have in common at their beginnings.
func shared(a, b []int) int {
	n := 0
	for n < len(a) && n < len(b) && a[n] == b[n] {
		n++
	}
	return n
}

// Walk returns the number of the node of a list of phones; ErrNone if there is none.
func Walk(l api.Lexicon, phones []int) (int, api.Errno) {
	if !Valid(l) || !arePhones(phones, api.MaxPhones) {
		return 0, api.ErrArg
	}
	// A node has a greater number than its parent, so one pass finds the whole way.
	at, gone := 0, 0
	for n, node := range tree(l) {
		if gone < len(phones) && node.Parent == at && node.Phone == phones[gone] {
			at, gone = n, gone+1
		}
	}
	if gone < len(phones) {
		return 0, api.ErrNone
	}
	return at, api.OK
}
