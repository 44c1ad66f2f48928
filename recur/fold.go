package recur

import (
	"slices"
	"strings"

	"graftage/api"
	"graftage/base"
	"graftage/lineage"
)

// fold tells how merge bases become one: each but the first is merged with what those ahead of it have come to.
type fold struct {
	bases []string // sorted
	under []*fold  // for each of these merges, what its base is made of
	depth int
	files []api.File // what the bases have come to, once it was made
	made  bool
}

// between returns the fold of the merge bases of two commits, or ErrTooLarge if its depth is greater than most.
func between(v api.View, a, b string, most int) (*fold, api.Errno) {
	l, e := base.All(v, a, b)
	if e != api.OK {
		return nil, e
	}
	p, e := lineage.Of(v, l)
	if e != api.OK {
		return nil, e
	}
	r := folder{past: p, folds: make(map[string]*fold)}
	f, fits := r.of(l, most)
	if !fits {
		return nil, api.ErrTooLarge
	}
	return f, api.OK
}

// folder makes folds. It keeps them by their bases, since many ways lead to the same ones.
type folder struct {
	past  lineage.Past
	folds map[string]*fold
}

// of returns the fold of some merge bases, or false as soon as its depth is known to be greater than most.
func (r folder) of(bases []string, most int) (*fold, bool) {
	key := strings.Join(bases, "")
	if f, met := r.folds[key]; met {
		return f, f.depth <= most
	}
	f := &fold{bases: bases}
	if len(bases) > 1 {
		if most < 1 {
			return nil, false
		}
		k := newKin(r.past, r.past.Places[bases[0]])
		for _, id := range bases[1:] {
			under, fits := r.of(r.sorted(k.add(r.past.Places[id])), most-1)
			if !fits {
				return nil, false
			}
			f.under = append(f.under, under)
			f.depth = max(f.depth, 1+under.depth)
		}
	}
	r.folds[key] = f
	return f, true
}

// sorted returns the IDs of some places, sorted.
func (r folder) sorted(places []int) []string {
	var out []string
	for _, i := range places {
		out = append(out, r.past.Ids[i])
	}
	slices.Sort(out)
	return out
}
