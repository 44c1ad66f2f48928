package tmerge_test

import (
	"crypto/sha256"
	"encoding/hex"
	"fmt"
	"slices"
	"strings"
	"testing"

	"graftage/api"
	"graftage/change"
	"graftage/flat"
	"graftage/ident"
	"graftage/lines"
	"graftage/path"
	"graftage/rename"
	"graftage/store"
	"graftage/three"
	"graftage/tmerge"
)

// box is a store under construction.
type box struct {
	items []api.Item
}

// put adds an object, and returns its ID.
func (b *box) put(kind int, word, body string) string {
	sum := sha256.Sum256(fmt.Appendf(nil, "%s %d\x00%s", word, len(body), body))
	id := hex.EncodeToString(sum[:20])
	at, found := slices.BinarySearchFunc(b.items, id, func(x api.Item, id string) int { return strings.Compare(x.Id, id) })
	if !found {
		b.items = slices.Insert(b.items, at, api.Item{Id: id, Kind: kind, Body: body})
	}
	return id
}

// blob adds a blob.
func (b *box) blob(text string) string {
	return b.put(api.Blob, "blob", text)
}

// store returns the objects so far.
func (b *box) store() api.Store {
	return api.Store{Items: slices.Clone(b.items)}
}

// options returns options of no preferred side, with the labels O and T.
func options() api.MergeOptions {
	return api.MergeOptions{Least: 50, Ours: "O", Theirs: "T", Style: 1}
}

// draws returns numbers below n that depend on seed alone.
func draws(seed uint64) func(n int) int {
	return func(n int) int {
		seed = seed*6364136223846793005 + 1442695040888963407
		return int((seed >> 33) % uint64(n))
	}
}

// The places of the lists.
const (
	inBase = iota
	inOurs
	inTheirs
)

// plain is a merge by the letter: the lists as they are modified, the records and the resulting files.
type plain struct {
	s     api.Store
	lists [3][]api.File
	notes []api.Conflict
	files []api.File
	from  map[string]string
}

// at returns the index of the file at path p.
func at(l []api.File, p string) int {
	return slices.IndexFunc(l, func(f api.File) bool { return f.Path == p })
}

// version returns the file at path p, or the zero file.
func version(l []api.File, p string) api.File {
	if i := at(l, p); i >= 0 {
		return l[i]
	}
	return api.File{}
}

// noted returns the index of the record at path p.
func (x *plain) noted(p string) int {
	return slices.IndexFunc(x.notes, func(c api.Conflict) bool { return c.Path == p })
}

// note keeps a record, if it is the first one at its path.
func (x *plain) note(kind int, p, other string) {
	if x.noted(p) < 0 {
		x.notes = append(x.notes, api.Conflict{Kind: kind, Path: p, Other: other})
	}
}

// rename is step 1 for an old path that was renamed to q by one side alone, while the other list is the given one.
func (x *plain) rename(old, q string, other int) {
	baseHas, otherHas := at(x.lists[inBase], q) >= 0, at(x.lists[other], q) >= 0
	if i := at(x.lists[other], old); i >= 0 && !baseHas && !otherHas {
		x.lists[inBase][at(x.lists[inBase], old)].Path = q
		x.lists[other][i].Path = q
	} else if i >= 0 {
		x.note(api.ConflictRenameTarget, q, "")
	} else {
		if !baseHas {
			x.lists[inBase][at(x.lists[inBase], old)].Path = q
		}
		x.note(api.ConflictModifyDelete, q, "")
	}
}

// stepOne aligns the names.
func (x *plain) stepOne(renames [3][]api.Change) {
	var olds []string
	for _, c := range slices.Concat(renames[inOurs], renames[inTheirs]) {
		olds = append(olds, c.Old.Path)
	}
	slices.Sort(olds)
	for _, old := range slices.Compact(olds) {
		q, r := rename.NewPath(renames[inOurs], old), rename.NewPath(renames[inTheirs], old)
		switch {
		case r == old:
			x.rename(old, q, inTheirs)
		case q == old:
			x.rename(old, r, inOurs)
		case q == r:
			if at(x.lists[inBase], q) < 0 {
				x.lists[inBase][at(x.lists[inBase], old)].Path = q
			}
		default:
			x.note(api.ConflictRenameRename, old, min(q, r))
			x.note(api.ConflictRenameRename, q, old)
			x.note(api.ConflictRenameRename, r, old)
		}
	}
}

// allPaths returns the paths of some lists, in order.
func allPaths(lists ...[]api.File) []string {
	var l []string
	for _, f := range slices.Concat(lists...) {
		l = append(l, f.Path)
	}
	slices.Sort(l)
	return slices.Compact(l)
}

// stepTwo merges file by file.
func (x *plain) stepTwo(o api.MergeOptions) api.Errno {
	for _, p := range allPaths(x.lists[:]...) {
		b, u, t := version(x.lists[inBase], p), version(x.lists[inOurs], p), version(x.lists[inTheirs], p)
		s, f, kind, e := plainFile(x.s, b, u, t, o)
		if e != api.OK {
			return e
		}
		x.s = s
		if i := x.noted(p); i >= 0 && x.notes[i].Kind == api.ConflictModifyDelete {
			if u == (api.File{}) && t != (api.File{}) {
				f = t
			}
			if t == (api.File{}) && u != (api.File{}) {
				f = u
			}
		}
		if kind != 0 {
			x.note(kind, p, "")
		}
		if f != (api.File{}) {
			x.files = append(x.files, f)
		}
	}
	return api.OK
}

// stepThree lets files give way to directories.
func (x *plain) stepThree() {
	x.from = make(map[string]string)
	for _, p := range allPaths(x.files) {
		i := at(x.files, p)
		others := slices.Delete(slices.Clone(x.files), i, i+1)
		if !slices.ContainsFunc(others, func(f api.File) bool { return path.Within(p, f.Path) }) {
			continue
		}
		next := p + "~theirs"
		if at(x.lists[inOurs], p) >= 0 {
			next = p + "~ours"
		}
		kind := api.ConflictFileDirectory
		if k := x.noted(p); k >= 0 {
			kind = x.notes[k].Kind
			x.notes = slices.Delete(x.notes, k, k+1)
		}
		meets := slices.ContainsFunc(others, func(f api.File) bool {
			_, _, meet := path.Meet([]string{next, f.Path})
			return meet
		})
		if !path.Is(next) || x.noted(next) >= 0 || meets {
			x.files = others
			x.note(kind, p, "")
			x.from[p] = "none"
			continue
		}
		x.files[i].Path = next
		x.note(kind, next, p)
		x.from[next] = p
	}
}

// result returns the result, with the slots of the records.
func (x *plain) result() api.Merged {
	m := api.Merged{Files: slices.Clone(x.files), Notes: slices.Clone(x.notes)}
	slices.SortFunc(m.Files, func(a, b api.File) int { return strings.Compare(a.Path, b.Path) })
	slices.SortFunc(m.Notes, func(a, b api.Conflict) int { return strings.Compare(a.Path, b.Path) })
	var slots []api.IndexEntry
	for _, c := range m.Notes {
		from := c.Path
		if p, ok := x.from[c.Path]; ok {
			from = p
		}
		for i, l := range x.lists {
			if f := version(l, from); f != (api.File{}) && from != "none" {
				slots = append(slots, api.IndexEntry{Path: c.Path, Stage: i + 1, Mode: f.Mode, Id: f.Id})
			}
		}
	}
	for _, s := range slots {
		good := true
		for _, f := range m.Files {
			good = good && !path.Within(f.Path, s.Path) && !path.Within(s.Path, f.Path)
		}
		for _, other := range slots {
			good = good && !path.Within(s.Path, other.Path)
		}
		if good {
			m.Slots = append(m.Slots, s)
		}
	}
	return m
}

// areGood tells whether options are valid.
func areGood(o api.MergeOptions) bool {
	for _, label := range []string{o.Ours, o.Theirs} {
		if len(label) < 1 || len(label) > 64 || strings.ContainsRune(label, '\n') {
			return false
		}
	}
	return o.Least > 0 && o.Least < 101 && slices.Contains([]int{0, 1, 2, 3}, o.Side) && (o.Style == 1 || o.Style == 2)
}

// plainMerge is Merge by the letter.
func plainMerge(s api.Store, base, ours, theirs []api.File, o api.MergeOptions) (api.Store, api.Merged, api.Errno) {
	if !areGood(o) {
		return api.Store{}, api.Merged{}, api.ErrInvalid
	}
	x := &plain{s: s, lists: [3][]api.File{slices.Clone(base), slices.Clone(ours), slices.Clone(theirs)}}
	for _, l := range x.lists {
		if e := flat.Check(l); e != api.OK {
			return api.Store{}, api.Merged{}, e
		}
	}
	var renames [3][]api.Change
	for _, side := range []int{inOurs, inTheirs} {
		l, e := rename.Find(s, change.Of(base, x.lists[side]), o.Least)
		if e != api.OK {
			return api.Store{}, api.Merged{}, e
		}
		renames[side] = rename.Map(l)
	}
	x.stepOne(renames)
	if e := x.stepTwo(o); e != api.OK {
		return api.Store{}, api.Merged{}, e
	}
	x.stepThree()
	if len(x.files) > 4096 {
		return api.Store{}, api.Merged{}, api.ErrTooLarge
	}
	return x.s, x.result(), api.OK
}

// plainFile is File by the letter.
func plainFile(s api.Store, b, o, t api.File, opts api.MergeOptions) (api.Store, api.File, int, api.Errno) {
	none := api.File{}
	equal := func(f, g api.File) bool { return f.Mode == g.Mode && f.Id == g.Id }
	p := o.Path
	if o == none {
		p = t.Path
	}
	at := func(f api.File, kind int) (api.Store, api.File, int, api.Errno) {
		if f != none {
			f.Path = p
		}
		return s, f, kind, api.OK
	}
	switch {
	case !areGood(opts):
		return api.Store{}, none, 0, api.ErrInvalid
	case equal(o, t):
		return at(o, 0)
	case equal(o, b):
		return at(t, 0)
	case equal(t, b):
		return at(o, 0)
	case o == none:
		return at(t, api.ConflictModifyDelete)
	case t == none:
		return at(o, api.ConflictModifyDelete)
	}
	kinds := []int{}
	f := o
	if b == none {
		kinds = append(kinds, api.ConflictAddAdd)
	} else if o.Mode != t.Mode && o.Mode != b.Mode && t.Mode != b.Mode {
		kinds = append(kinds, api.ConflictMode)
	} else if o.Mode == b.Mode {
		f.Mode = t.Mode
	}
	if o.Id == b.Id {
		f.Id = t.Id
	} else if o.Id != t.Id && t.Id != b.Id {
		text, kind, e := plainText(s, []api.File{b, o, t}, opts)
		if e != api.OK {
			return api.Store{}, none, 0, e
		}
		if b == none {
			kind = 0
		}
		if kind != 0 {
			kinds = append(kinds, kind)
		}
		if text != nil {
			if s, f.Id, e = store.Put(s, api.Object{Kind: api.Blob, Body: *text}); e != api.OK {
				return api.Store{}, none, 0, e
			}
		}
	}
	if len(kinds) == 0 {
		return at(f, 0)
	}
	return at(f, slices.Min(kinds))
}

// plainText returns the merged text of three files, of which the base may be absent, or nil if one isn't text, and the kind of the conflict.
func plainText(s api.Store, files []api.File, opts api.MergeOptions) (*string, int, api.Errno) {
	var texts [][]string
	isText := true
	for _, f := range files {
		if f.Mode == api.ModeLink {
			return nil, api.ConflictBinary, api.OK
		}
	}
	for _, f := range files {
		if f == (api.File{}) {
			texts = append(texts, nil)
			continue
		}
		o, e := store.Get(s, f.Id)
		if e != api.OK {
			return nil, 0, api.ErrMissingObject
		}
		if o.Kind != api.Blob {
			return nil, 0, api.ErrKind
		}
		l := lines.Split(o.Body)
		isText = isText && !strings.Contains(o.Body[:min(8000, len(o.Body))], "\x00") && len(l) <= 4096
		texts = append(texts, l)
	}
	if !isText {
		return nil, api.ConflictBinary, api.OK
	}
	regions := three.Merge(texts[0], texts[1], texts[2])
	kind := 0
	text := strings.Join(three.Lines(regions, opts.Side), "")
	if opts.Side == api.SideNone && !three.Clean(regions) {
		text = three.Mark(regions, opts.Ours, opts.Theirs, opts.Style)
		kind = api.ConflictContent
	}
	return &text, kind, api.OK
}

// isValid is Valid by the letter.
func isValid(m api.Merged) bool {
	good := flat.Check(m.Files) == api.OK
	for i, c := range m.Notes {
		good = good && (i == 0 || m.Notes[i-1].Path < c.Path) && c.Kind >= 1 && c.Kind <= 8 && path.Is(c.Path) && (c.Other == "" || path.Is(c.Other))
	}
	for i, s := range m.Slots {
		if i > 0 {
			last := m.Slots[i-1]
			good = good && (last.Path < s.Path || last.Path == s.Path && last.Stage < s.Stage)
		}
		good = good && s.Stage > 0 && s.Stage < 4 && path.Is(s.Path) && s.Mode > 0 && s.Mode < 4 && ident.Is(s.Id) && !s.Skip && !s.Intent
		good = good && slices.ContainsFunc(m.Notes, func(c api.Conflict) bool { return c.Path == s.Path })
		for _, other := range m.Slots {
			good = good && !path.Within(s.Path, other.Path)
		}
		for _, f := range m.Files {
			good = good && !path.Within(s.Path, f.Path) && !path.Within(f.Path, s.Path)
		}
	}
	return good
}

// sameMerged reports whether two results are equal.
func sameMerged(a, b api.Merged) bool {
	return slices.Equal(a.Files, b.Files) && slices.Equal(a.Slots, b.Slots) && slices.Equal(a.Notes, b.Notes)
}

// expectMerge fails unless Merge answers as the reference does. It returns the result.
func expectMerge(t *testing.T, s api.Store, base, ours, theirs []api.File, o api.MergeOptions) (api.Store, api.Merged, api.Errno) {
	t.Helper()
	want, result, code := plainMerge(s, base, ours, theirs, o)
	got, m, e := tmerge.Merge(s, base, ours, theirs, o)
	if e != code || !sameMerged(m, result) {
		t.Errorf("Merge(%v, %v, %v, %v) = %v, %d, want %v, %d", base, ours, theirs, o, m, e, result, code)
	}
	if !slices.Equal(got.Items, want.Items) {
		t.Errorf("Merge(%v, %v, %v, %v) has a store of %d items, want %d", base, ours, theirs, o, len(got.Items), len(want.Items))
	}
	return got, m, e
}
