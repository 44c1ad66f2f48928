package change

import (
	"slices"

	"graftage/api"
	"graftage/flat"
	"graftage/path"
	"graftage/store"
	"graftage/tree"
)

// The two sides of a comparison.
const (
	oldSide = iota
	newSide
	sides
)

// pair holds the ID of a tree of each side, "" where there is none.
type pair [sides]string

// difference tells how the trees of a pair differ.
type difference struct {
	entries []api.Change  // their names stand for paths, and are in ascending order
	below   []*difference // of the directories of each entry; nil if neither side has one
	files   [sides]int    // how many files differ in all directories, at most one more than a list may have
}

// Trees returns the changes between two trees without reading identical subtrees.
func Trees(s api.Store, a, b string) ([]api.Change, api.Errno) {
	var roots pair
	for side, id := range [sides]string{a, b} {
		if id == "" {
			continue
		}
		root, e := flat.Peel(s, id, api.Tree)
		if e != api.OK {
			return nil, e
		}
		roots[side] = root
	}
	if roots[oldSide] == roots[newSide] {
		return nil, api.OK
	}
	d, e := compare(s, roots)
	if e != api.OK {
		return nil, e
	}
	var lists [sides][]api.File
	for side := range lists {
		lists[side] = d.list(nil, side, "")
		slices.SortFunc(lists[side], byPath)
		if e := flat.Check(lists[side]); e != api.OK {
			return nil, e
		}
	}
	return Of(lists[oldSide], lists[newSide]), api.OK
}

// compare finds out how two trees differ, down to their last directories. It compares each pair of trees once, since a few trees can make up any number of directories.
func compare(s api.Store, roots pair) (*difference, api.Errno) {
	met := make(map[pair]*difference)
	var work []*difference // each one below the one ahead of it
	open := func(trees pair) (*difference, api.Errno) {
		d, found := met[trees]
		if found || trees == (pair{}) {
			return d, api.OK
		}
		entries, e := entriesThatDiffer(s, trees)
		if e != api.OK {
			return nil, e
		}
		d = &difference{entries: entries}
		met[trees] = d
		work = append(work, d)
		return d, api.OK
	}
	root, e := open(roots)
	if e != api.OK {
		return nil, e
	}
	for len(work) > 0 {
		d := work[len(work)-1]
		next := len(d.below)
		if next == len(d.entries) {
			d.count()
			work = work[:len(work)-1]
			continue
		}
		if !mayBeBlobs(s, d.entries[next]) {
			return nil, api.ErrKind
		}
		below, e := open(directories(d.entries[next]))
		if e != api.OK {
			return nil, e
		}
		d.below = append(d.below, below)
	}
	return root, api.OK
}

// entriesThatDiffer returns the changes between the entries of two trees.
func entriesThatDiffer(s api.Store, trees pair) ([]api.Change, api.Errno) {
	var lists [sides][]api.File
	for side, id := range trees {
		if id == "" {
			continue
		}
		l, e := entriesOf(s, id)
		if e != api.OK {
			return nil, e
		}
		lists[side] = l
	}
	return Of(lists[oldSide], lists[newSide]), api.OK
}

// entriesOf returns the entries of a tree as files, sorted by their names.
func entriesOf(s api.Store, id string) ([]api.File, api.Errno) {
	o, e := store.Get(s, id)
	switch {
	case e != api.OK:
		return nil, api.ErrMissingObject
	case o.Kind != api.Tree:
		return nil, api.ErrKind
	}
	entries, e := tree.Parse(o.Body)
	if e != api.OK {
		return nil, e
	}
	var l []api.File
	for _, entry := range entries {
		l = append(l, api.File{Path: entry.Name, Mode: entry.Mode, Id: entry.Id})
	}
	slices.SortFunc(l, byPath)
	return l, api.OK
}

// mayBeBlobs reports whether the files of a change are blobs, as far as the store has them.
func mayBeBlobs(s api.Store, c api.Change) bool {
	for side := range sides {
		f := onSide(c, side)
		if !isFile(f) {
			continue
		}
		if o, e := store.Get(s, f.Id); e == api.OK && o.Kind != api.Blob {
			return false
		}
	}
	return true
}

// directories returns the trees that a change leads to.
func directories(c api.Change) pair {
	var trees pair
	for side := range trees {
		if f := onSide(c, side); f.Mode == api.ModeDir {
			trees[side] = f.Id
		}
	}
	return trees
}

// onSide returns the file of a change on one side; it is the zero file if there is none.
func onSide(c api.Change, side int) api.File {
	if side == oldSide {
		return c.Old
	}
	return c.New
}

// isFile reports whether an entry of a tree is there, which one without a mode isn't, and is no directory.
func isFile(f api.File) bool {
	return f.Mode != 0 && f.Mode != api.ModeDir
}

// count sets the numbers of files, once those of all differences below are set.
func (d *difference) count() {
	for side := range d.files {
		n := 0
		for i, c := range d.entries {
			if isFile(onSide(c, side)) {
				n++
			}
			if d.below[i] != nil {
				n += d.below[i].files[side]
			}
		}
		d.files[side] = min(n, api.MaxFiles+1)
	}
}

// list appends the files of one side to l, dir being the directory that they are in, until l has more of them than a list may have. A directory whose path isn't valid stands for each of its files, since no path in there is valid.
func (d *difference) list(l []api.File, side int, dir string) []api.File {
	for i, c := range d.entries {
		if len(l) > api.MaxFiles {
			break
		}
		f := onSide(c, side)
		f.Path = path.Under(dir, f.Path)
		switch below := d.below[i]; {
		case isFile(f):
			l = append(l, f)
		case below == nil || below.files[side] == 0:
			continue
		case path.Is(f.Path):
			l = below.list(l, side, f.Path)
		default:
			l = append(l, slices.Repeat([]api.File{f}, below.files[side])...)
		}
	}
	return l
}
