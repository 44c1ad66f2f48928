package store

import (
	"maps"
	"slices"

	"graftage/api"
	"graftage/commit"
	"graftage/tree"
)

// Beside the kinds of objects, which are not 0:
const (
	anyKind = 0 // what a link implies that implies nothing
	absent  = 0 // what a link leads to that leads out of the store
)

// link is a reference to an object, or one of the IDs that a search begins with.
type link struct {
	id   string
	kind int // that it implies
}

// Reach returns all IDs that are reachable from the given ones.
func Reach(s api.Store, from []string) ([]string, api.Errno) {
	met := make(map[string]bool)
	complete := follow(s, nil, from, func(l link, kind int) bool {
		met[l.id] = true
		return kind != absent
	})
	if !complete {
		return nil, api.ErrMissingObject
	}
	return slices.Sorted(maps.Keys(met)), api.OK
}

// Missing returns the reachable IDs that are not in the store.
func Missing(s api.Store, from []string) []string {
	missing := make(map[string]bool)
	follow(s, nil, from, func(l link, kind int) bool {
		if kind == absent {
			missing[l.id] = true
		}
		return true
	})
	return slices.Sorted(maps.Keys(missing))
}

// Whole reports whether everything reachable is in the store, with shallow commits cut off.
func Whole(s api.Store, cuts, from []string) bool {
	return follow(s, cuts, from, func(l link, kind int) bool {
		return kind != absent && (l.kind == anyKind || l.kind == kind)
	})
}

// follow goes through the links from the given IDs on, those of each object once, and hands each of them to accept with the kind of the object that it leads to. It ends as soon as accept refuses one, and reports whether none was refused.
func follow(s api.Store, cuts, from []string, accept func(l link, kind int) bool) bool {
	cut := setOf(cuts)
	kinds := make(map[string]int) // of the objects that were met
	work := [][]link{linksTo(anyKind, from)}
	accepted := true
worklist:
	for len(work) > 0 {
		links := work[len(work)-1]
		work = work[:len(work)-1]
		for _, l := range links {
			kind, met := kinds[l.id]
			if !met {
				o, _ := Get(s, l.id)
				kind = o.Kind
				kinds[l.id] = kind
				work = append(work, linksOf(o, cut[l.id]))
			}
			if accepted = accept(l, kind); !accepted {
				break worklist
			}
		}
	}
	return accepted
}

// linksTo returns links to some IDs that imply the given kind.
func linksTo(kind int, ids []string) []link {
	var links []link
	for _, id := range ids {
		links = append(links, link{id: id, kind: kind})
	}
	return links
}

// linksOf returns the links of an object; those of a commit that is cut off don't lead to its parents.
func linksOf(o api.Object, cut bool) []link {
	switch o.Kind {
	case api.Tree:
		return treeLinks(o.Body)
	case api.Commits:
		c, e := commit.Parse(o.Body)
		if e != api.OK {
			return nil
		}
		links := []link{{id: c.Tree, kind: api.Tree}}
		if !cut {
			links = append(links, linksTo(api.Commits, c.Parents)...)
		}
		return links
	case api.Tags:
		t, e := commit.ParseTag(o.Body)
		if e != api.OK {
			return nil
		}
		return []link{{id: t.Object, kind: t.Kind}}
	}
	return nil
}

// treeLinks returns the links of a tree. commit.Links would not do, since it doesn't tell the modes.
func treeLinks(body string) []link {
	entries, _ := tree.Parse(body)
	var links []link
	for _, entry := range entries {
		kind := api.Blob
		if entry.Mode == api.ModeDir {
			kind = api.Tree
		}
		links = append(links, link{id: entry.Id, kind: kind})
	}
	return links
}
