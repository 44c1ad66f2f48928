package flat

import (
	"graftage/api"
	"graftage/commit"
	"graftage/path"
	"graftage/store"
	"graftage/tree"
)

// place is a directory as far as it bears on what is found there: its tree, and how much of a path is left to it.
type place struct {
	id         string
	deep, size int // of the directory's path: its components, its bytes
}

// Of returns all files of the tree, commit or tag id.
func Of(s api.Store, id string) ([]api.File, api.Errno) {
	root, e := Peel(s, id, api.Tree)
	if e != api.OK {
		return nil, e
	}
	var files []api.File
	var read func(dir, id string) api.Errno
	take := func(f api.File) api.Errno {
		switch {
		case !path.Is(f.Path):
			return api.ErrBadPath
		case f.Mode == api.ModeDir:
			return read(f.Path, f.Id)
		case !mayBeBlob(s, f.Id):
			return api.ErrKind
		case len(files) == api.MaxFiles:
			return api.ErrTooLarge
		}
		files = append(files, f)
		return api.OK
	}
	bare := make(map[place]bool) // a few trees can make up any number of directories without files
	read = func(dir, id string) api.Errno {
		here := place{id: id, deep: len(path.Parts(dir)), size: len(dir)}
		if bare[here] {
			return api.OK
		}
		entries, e := entriesOf(s, id)
		if e != api.OK {
			return e
		}
		before := len(files)
		for _, entry := range entries {
			f := api.File{Path: path.Under(dir, entry.Name), Mode: entry.Mode, Id: entry.Id}
			if e := take(f); e != api.OK {
				return e
			}
		}
		bare[here] = len(files) == before
		return api.OK
	}
	if e := read("", root); e != api.OK {
		return nil, e
	}
	return files, api.OK
}

// entriesOf returns the entries of the tree with the given ID.
func entriesOf(s api.Store, id string) ([]api.Entry, api.Errno) {
	o, e := store.Get(s, id)
	switch {
	case e != api.OK:
		return nil, api.ErrMissingObject
	case o.Kind != api.Tree:
		return nil, api.ErrKind
	}
	return tree.Parse(o.Body)
}

// mayBeBlob reports whether the store has no object, or a blob, with the given ID.
func mayBeBlob(s api.Store, id string) bool {
	o, e := store.Get(s, id)
	return e != api.OK || o.Kind == api.Blob
}

// At returns the entry at path p in the tree, commit or tag id.
func At(s api.Store, id, p string) (api.File, api.Errno) {
	root, e := Peel(s, id, api.Tree)
	if e != api.OK {
		return api.File{}, e
	}
	if p != "" && !path.Is(p) {
		return api.File{}, api.ErrNotFound
	}
	at := api.File{Path: p, Mode: api.ModeDir, Id: root}
	for _, name := range path.Parts(p) {
		if at.Mode != api.ModeDir {
			return api.File{}, api.ErrNotFound
		}
		entries, e := entriesOf(s, at.Id)
		if e != api.OK {
			return api.File{}, e
		}
		entry, ok := tree.Find(entries, name)
		if !ok {
			return api.File{}, api.ErrNotFound
		}
		at.Mode, at.Id = entry.Mode, entry.Id
	}
	return at, api.OK
}

// Peel follows tags and commits to an object of the given kind and returns its ID.
func Peel(s api.Store, id string, kind int) (string, api.Errno) {
	for range len(s.Items) {
		o, e := store.Get(s, id)
		switch {
		case e != api.OK:
			return "", api.ErrMissingObject
		case o.Kind == kind:
			return id, api.OK
		case o.Kind != api.Tags && o.Kind != api.Commits:
			return "", api.ErrKind
		}
		links, e := commit.Links(o)
		if e != api.OK {
			return "", api.ErrKind
		}
		id = links[0] // the object of a tag, the tree of a commit
	}
	// No object comes twice, so that behind all that the store has there is none but a missing one.
	return "", api.ErrMissingObject
}
