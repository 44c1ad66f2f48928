package commit

import (
	"graftage/api"
	"graftage/object"
	"graftage/tree"
)

// Whole reports whether an object is well formed.
func Whole(o api.Object) api.Errno {
	_, e := Links(o)
	return e
}

// Links returns the IDs that an object refers to, without duplicates.
func Links(o api.Object) ([]string, api.Errno) {
	if _, e := object.Bytes(o); e != api.OK {
		return nil, e
	}
	read := commitLinks
	switch o.Kind {
	case api.Tags:
		return tagLinks(o.Body)
	case api.Tree:
		read = treeLinks
		fallthrough // a tree and a commit, unlike a tag, may refer to one object twice
	case api.Commits:
		ids, e := read(o.Body)
		return distinct(ids), e
	}
	return nil, api.OK // a blob holds anything and refers to nothing
}

// treeLinks returns the IDs of the entries of a tree, or the error of parsing it.
func treeLinks(body string) ([]string, api.Errno) {
	l, e := tree.Parse(body)
	var ids []string
	for _, entry := range l {
		ids = append(ids, entry.Id)
	}
	return ids, e
}

// commitLinks returns the IDs of the tree and of the parents of a commit, or the error of parsing it.
func commitLinks(body string) ([]string, api.Errno) {
	c, e := Parse(body)
	if e != api.OK {
		return nil, e
	}
	return append([]string{c.Tree}, c.Parents...), api.OK
}

// tagLinks returns the ID of the object of a tag, or the error of parsing it.
func tagLinks(body string) ([]string, api.Errno) {
	t, e := ParseTag(body)
	if e != api.OK {
		return nil, e
	}
	return []string{t.Object}, api.OK
}

// distinct returns a list without the elements that occur earlier in it.
func distinct(l []string) []string {
	var out []string
	met := make(map[string]bool, len(l))
	for _, s := range l {
		if !met[s] {
			out = append(out, s)
		}
		met[s] = true
	}
	return out
}
