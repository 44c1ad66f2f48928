package tmerge

import (
	"maps"
	"slices"

	"graftage/api"
	"graftage/change"
	"graftage/rename"
)

// renames returns the new paths of the files that a side renamed, by their old paths.
func renames(s api.Store, base, side []api.File, least int) (map[string]string, api.Errno) {
	l, e := rename.Find(s, change.Of(base, side), least)
	if e != api.OK {
		return nil, e
	}
	to := make(map[string]string)
	for _, c := range rename.Map(l) {
		to[c.Old.Path] = c.New.Path
	}
	return to, api.OK
}

// merger is a merge in progress.
type merger struct {
	lists [sides]map[string]api.File // by path, as the renames have them aligned
	notes map[string]api.Conflict    // by path
	files map[string]api.File        // the resulting ones, by path
	from  map[string]string          // the old paths of the files that give way to directories, by their new paths
}

// newMerger returns a merger of some lists.
func newMerger(lists [sides][]api.File) *merger {
	m := &merger{
		notes: make(map[string]api.Conflict),
		files: make(map[string]api.File),
		from:  make(map[string]string),
	}
	for side, l := range lists {
		m.lists[side] = make(map[string]api.File)
		for _, f := range l {
			m.lists[side][f.Path] = f
		}
	}
	return m
}

// has reports whether a list has a file at path p.
func (m *merger) has(side int, p string) bool {
	_, ok := m.lists[side][p]
	return ok
}

// move moves a file of a list, unless there is one at its new path.
func (m *merger) move(side int, from, to string) {
	if m.has(side, to) {
		return
	}
	f := m.lists[side][from]
	f.Path = to
	delete(m.lists[side], from)
	m.lists[side][to] = f
}

// note records a conflict, unless there is one at its path.
func (m *merger) note(c api.Conflict) {
	if _, noted := m.notes[c.Path]; !noted {
		m.notes[c.Path] = c
	}
}

// align moves the files of the lists to where the other sides have renamed them.
func (m *merger) align(ours, theirs map[string]string) {
	all := maps.Clone(ours)
	maps.Copy(all, theirs)
	for _, old := range slices.Sorted(maps.Keys(all)) {
		q, byUs := ours[old]
		r, byThem := theirs[old]
		switch {
		case !byThem:
			m.follow(old, q, theirSide)
		case !byUs:
			m.follow(old, r, ourSide)
		case q == r:
			m.move(baseSide, old, q)
		default:
			m.note(api.Conflict{Kind: api.ConflictRenameRename, Path: old, Other: min(q, r)})
			m.note(api.Conflict{Kind: api.ConflictRenameRename, Path: q, Other: old})
			m.note(api.Conflict{Kind: api.ConflictRenameRename, Path: r, Other: old})
		}
	}
}

// follow lets base and the other side have a file where one side alone has renamed it.
func (m *merger) follow(from, to string, other int) {
	switch {
	case !m.has(other, from):
		m.move(baseSide, from, to)
		m.note(api.Conflict{Kind: api.ConflictModifyDelete, Path: to})
	case m.has(baseSide, to) || m.has(other, to):
		m.note(api.Conflict{Kind: api.ConflictRenameTarget, Path: to})
	default:
		m.move(baseSide, from, to)
		m.move(other, from, to)
	}
}
