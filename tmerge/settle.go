package tmerge

import (
	"cmp"
	"maps"
	"slices"

	"graftage/api"
	"graftage/path"
)

// What is appended to the path of a file that gives way to a directory.
const (
	ourMark   = "~ours"
	theirMark = "~theirs"
)

// settle merges the lists path by path.
func (m *merger) settle(blend blending) api.Errno {
	paths := make(map[string]bool)
	for _, l := range m.lists {
		for p := range l {
			paths[p] = true
		}
	}
	for _, p := range slices.Sorted(maps.Keys(paths)) {
		b, o, t := m.lists[baseSide][p], m.lists[ourSide][p], m.lists[theirSide][p]
		f, kind, e := decide(b, o, t, blend)
		if e != api.OK {
			return e
		}
		if m.notes[p].Kind == api.ConflictModifyDelete {
			f = cmp.Or(f, o, t)
		}
		if kind != none {
			m.note(api.Conflict{Kind: kind, Path: p})
		}
		if !isAbsent(f) {
			m.files[p] = f
		}
	}
	return api.OK
}

// dirs returns the directories of a path, the root excepted.
func dirs(p string) []string {
	var l []string
	for dir := path.Dir(p); dir != ""; dir = path.Dir(dir) {
		l = append(l, dir)
	}
	return l
}

// part renames or removes the files that have others within their paths.
func (m *merger) part() {
	// A file gives way within its directory, and what lies deepest stays, so these directories remain.
	folders := make(map[string]bool)
	for p := range m.files {
		for _, dir := range dirs(p) {
			folders[dir] = true
		}
	}
	for _, p := range slices.Sorted(maps.Keys(m.files)) {
		if folders[p] {
			m.giveWay(p, folders)
		}
	}
}

// giveWay renames or removes the file at path p, where there is a directory, too.
func (m *merger) giveWay(p string, folders map[string]bool) {
	c := m.notes[p]
	if c.Kind == none {
		c.Kind = api.ConflictFileDirectory
	}
	f := m.files[p]
	delete(m.notes, p)
	delete(m.files, p)
	c.Path, c.Other = p+theirMark, p
	if m.has(ourSide, p) {
		c.Path = p + ourMark
	}
	// A file at a directory of p would have given way to this one before.
	if _, noted := m.notes[c.Path]; noted || !path.Is(c.Path) || folders[c.Path] || !isAbsent(m.files[c.Path]) {
		m.notes[p] = api.Conflict{Kind: c.Kind, Path: p} // without slots, since these would contain a file
		return
	}
	f.Path = c.Path
	m.files[c.Path] = f
	m.notes[c.Path] = c
	m.from[c.Path] = p
}

// merged returns the result, once the lists are settled.
func (m *merger) merged() api.Merged {
	var out api.Merged
	for _, p := range slices.Sorted(maps.Keys(m.files)) {
		out.Files = append(out.Files, m.files[p])
	}
	for _, p := range slices.Sorted(maps.Keys(m.notes)) {
		out.Notes = append(out.Notes, m.notes[p])
		out.Slots = append(out.Slots, m.slots(p)...)
	}
	out.Slots = slices.DeleteFunc(out.Slots, crossing(out))
	return out
}

// slots returns the unmerged entries of a conflict at path p.
func (m *merger) slots(p string) []api.IndexEntry {
	at := cmp.Or(m.from[p], p)
	var l []api.IndexEntry
	for side, files := range m.lists {
		if f, ok := files[at]; ok {
			l = append(l, api.IndexEntry{Path: p, Stage: side + 1, Mode: f.Mode, Id: f.Id})
		}
	}
	return l
}
