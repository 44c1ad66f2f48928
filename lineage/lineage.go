// Package lineage holds a part of the history as a table of places, for the layers that go through it more than once.
package lineage

import (
	"graftage/api"
	"graftage/walk"
)

// Past is some commits and all of their ancestors.
type Past struct {
	Ids     []string       // in topological order: children ahead of their parents
	Places  map[string]int // of the IDs in that order
	Parents [][]int        // for each commit, the places of its parents
}

// Of returns some commits with all of their ancestors, or the error of walk for them.
func Of(v api.View, from []string) (Past, api.Errno) {
	ids, e := walk.Order(v, from)
	if e != api.OK {
		return Past{}, e
	}
	p := Past{Ids: ids, Places: make(map[string]int, len(ids)), Parents: make([][]int, len(ids))}
	for i, id := range ids {
		p.Places[id] = i
	}
	cut := make(map[string]bool, len(v.Cuts))
	for _, id := range v.Cuts {
		cut[id] = true
	}
	whole := api.View{Store: v.Store} // so that the cuts aren't gone through for each commit
	for i, id := range ids {
		if cut[id] {
			continue
		}
		l, e := walk.Parents(whole, id)
		if e != api.OK {
			return Past{}, e
		}
		p.Parents[i] = p.find(l)
	}
	return p, api.OK
}

// find returns the places of some commits.
func (p Past) find(ids []string) []int {
	var out []int
	for _, id := range ids {
		if i, in := p.Places[id]; in {
			out = append(out, i)
		}
	}
	return out
}
