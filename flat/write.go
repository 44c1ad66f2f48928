package flat

import (
	"maps"
	"slices"

	"graftage/api"
	"graftage/path"
	"graftage/store"
	"graftage/tree"
)

// Write stores the trees of a file list and returns the ID of the root tree.
func Write(s api.Store, l []api.File) (api.Store, string, api.Errno) {
	if e := Check(l); e != api.OK {
		return api.Store{}, "", e
	}
	trees, root, e := treesOf(grouped(l))
	if e != api.OK {
		return api.Store{}, "", e
	}
	out, e := store.Union(s, trees)
	if e != api.OK {
		return api.Store{}, "", e
	}
	return out, root, api.OK
}

// grouped returns the entries of each directory of a list, in order; those of subdirectories have no ID yet.
func grouped(l []api.File) map[string][]api.Entry {
	groups := map[string][]api.Entry{"": nil} // the root is there even if it is empty
	var put func(p string, mode int, id string)
	put = func(p string, mode int, id string) {
		dir := path.Dir(p)
		if _, met := groups[dir]; !met {
			put(dir, api.ModeDir, "")
		}
		groups[dir] = append(groups[dir], api.Entry{Mode: mode, Name: path.Name(p), Id: id})
	}
	for _, f := range l {
		put(f.Path, f.Mode, f.Id)
	}
	return groups
}

// treesOf returns a store of the trees of some directories, the root among them, and the ID of the root tree.
func treesOf(groups map[string][]api.Entry) (api.Store, string, api.Errno) {
	ids := make(map[string]string) // of the trees, by directory
	var stores []api.Store
	for _, dir := range slices.Backward(slices.Sorted(maps.Keys(groups))) { // each one behind those within it
		entries := groups[dir]
		for i, entry := range entries {
			if entry.Mode == api.ModeDir {
				entries[i].Id = ids[path.Under(dir, entry.Name)]
			}
		}
		body, e := tree.Body(entries)
		if e != api.OK {
			return api.Store{}, "", e
		}
		one, id, e := store.Put(api.Store{}, api.Object{Kind: api.Tree, Body: body})
		if e != api.OK {
			return api.Store{}, "", e
		}
		ids[dir] = id
		stores = append(stores, one)
	}
	trees, e := joined(stores)
	return trees, ids[""], e
}

// joined returns the union of one or more stores. It joins halves, since a union copies both of its stores.
func joined(l []api.Store) (api.Store, api.Errno) {
	if len(l) == 1 {
		return l[0], api.OK
	}
	half := len(l) / 2
	a, e := joined(l[:half])
	if e != api.OK {
		return api.Store{}, e
	}
	b, e := joined(l[half:])
	if e != api.OK {
		return api.Store{}, e
	}
	return store.Union(a, b)
}
