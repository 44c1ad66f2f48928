package tmerge

import (
	"graftage/api"
	"graftage/flat"
	"graftage/path"
)

// Valid reports whether the merge result is valid.
func Valid(m api.Merged) bool {
	return flat.Check(m.Files) == api.OK && areNotes(m.Notes) && areSlots(m)
}

// areNotes reports whether conflict records are sorted and valid.
func areNotes(l []api.Conflict) bool {
	for i, c := range l {
		switch {
		case i > 0 && l[i-1].Path >= c.Path,
			c.Kind < api.ConflictContent || c.Kind > api.ConflictBinary,
			!path.Is(c.Path),
			c.Other != "" && !path.Is(c.Other):
			return false
		}
	}
	return true
}

// areSlots reports whether the slots of a result whose files and records are valid are valid, too.
func areSlots(m api.Merged) bool {
	noted := make(map[string]bool)
	for _, c := range m.Notes {
		noted[c.Path] = true
	}
	for i, s := range m.Slots {
		f := api.File{Path: s.Path, Mode: s.Mode, Id: s.Id}
		switch {
		case i > 0 && bySlot(m.Slots[i-1], s) >= 0,
			s.Stage < baseStage || s.Stage > theirStage,
			s.Skip || s.Intent,
			flat.Check([]api.File{f}) != api.OK,
			!noted[s.Path]:
			return false
		}
	}
	cross := crossing(m)
	for _, s := range m.Slots {
		if cross(s) {
			return false
		}
	}
	return true
}

// crossing returns a function that reports whether the path of a slot contains that of another slot or of a file, or lies within that of a file.
func crossing(m api.Merged) func(s api.IndexEntry) bool {
	files, folders := make(map[string]bool), make(map[string]bool)
	for _, f := range m.Files {
		files[f.Path] = true
		for _, dir := range dirs(f.Path) {
			folders[dir] = true
		}
	}
	for _, s := range m.Slots {
		for _, dir := range dirs(s.Path) {
			folders[dir] = true
		}
	}
	return func(s api.IndexEntry) bool {
		cross := folders[s.Path]
		for _, dir := range dirs(s.Path) {
			cross = cross || files[dir]
		}
		return cross
	}
}
