package recur

import (
	"maps"
	"slices"

	"graftage/lineage"
)

// kin is a growing set of commits and their ancestors, which are sought no further back than is asked for.
type kin struct {
	past  lineage.Past
	known map[int]bool // all of them that are ahead of the place next, and the parents of these
	next  int
}

// newKin returns the kin of one commit.
func newKin(p lineage.Past, i int) *kin {
	return &kin{past: p, known: map[int]bool{i: true}, next: i}
}

// has reports whether a commit is in the set.
func (k *kin) has(i int) bool {
	for ; k.next < i; k.next++ {
		if k.known[k.next] {
			k.mark(k.known, k.next)
		}
	}
	return k.known[i]
}

// add adds a commit, and returns the best common ancestors of it and those that were there.
func (k *kin) add(i int) []int {
	own, met := make(map[int]bool), make(map[int]bool)
	var visit func(i int)
	visit = func(i int) {
		switch {
		case own[i]:
		case k.has(i):
			met[i] = true
		default:
			own[i] = true
			for _, parent := range k.past.Parents[i] {
				visit(parent)
			}
		}
	}
	visit(i)
	maps.Copy(k.known, own)
	return k.best(met)
}

// best returns those of some commits that are no proper ancestors of others of them.
func (k *kin) best(met map[int]bool) []int {
	places := slices.Sorted(maps.Keys(met))
	if len(places) == 0 {
		return nil
	}
	below := make(map[int]bool)
	for i := places[0]; i < places[len(places)-1]; i++ {
		if met[i] || below[i] {
			k.mark(below, i)
		}
	}
	return slices.DeleteFunc(places, func(i int) bool { return below[i] })
}

// mark adds the parents of a commit to a set.
func (k *kin) mark(set map[int]bool, i int) {
	for _, parent := range k.past.Parents[i] {
		set[parent] = true
	}
}
