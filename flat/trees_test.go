package flat_test

import (
	"fmt"
	"slices"
	"strings"
	"testing"

	"graftage/api"
	"graftage/commit"
	"graftage/flat"
	"graftage/path"
	"graftage/store"
	"graftage/tree"
)

// box is a store under construction.
type box struct {
	t *testing.T
	s api.Store
}

// put adds an object.
func (b *box) put(kind int, body string) string {
	b.t.Helper()
	s, id, e := store.Put(b.s, api.Object{Kind: kind, Body: body})
	if e != api.OK {
		b.t.Fatalf("store.Put({%d %q}) = %d", kind, body, e)
	}
	b.s = s
	return id
}

// tree adds a tree.
func (b *box) tree(entries ...api.Entry) string {
	b.t.Helper()
	body, e := tree.Body(entries)
	if e != api.OK {
		b.t.Fatalf("tree.Body(%v) = %d", entries, e)
	}
	return b.put(api.Tree, body)
}

// commit adds a commit.
func (b *box) commit(tree string, parents ...string) string {
	b.t.Helper()
	who := api.Person{Name: "a", Mail: "a@b", Time: 5}
	body, e := commit.Body(api.Commit{Tree: tree, Parents: parents, Author: who, Committer: who, Text: "x\n"})
	if e != api.OK {
		b.t.Fatalf("commit.Body = %d", e)
	}
	return b.put(api.Commits, body)
}

// tag adds a tag that says that its object is of the given kind.
func (b *box) tag(id string, kind int) string {
	b.t.Helper()
	who := api.Person{Name: "a", Mail: "a@b", Time: 5}
	body, e := commit.TagBody(api.Tag{Object: id, Kind: kind, Name: "v", Tagger: who})
	if e != api.OK {
		b.t.Fatalf("commit.TagBody = %d", e)
	}
	return b.put(api.Tags, body)
}

// drop removes an object.
func (b *box) drop(id string) {
	b.s = store.Less(b.s, store.Only(b.s, []string{id}))
}

// entry returns an entry of a tree.
func entry(mode int, name, id string) api.Entry {
	return api.Entry{Mode: mode, Name: name, Id: id}
}

// same reports whether two stores have the same items.
func same(a, b api.Store) bool {
	return slices.Equal(a.Items, b.Items)
}

// expectOf fails unless Of answers just this.
func expectOf(t *testing.T, s api.Store, id string, want []api.File, code api.Errno) {
	t.Helper()
	if got, e := flat.Of(s, id); !slices.Equal(got, want) || e != code {
		t.Errorf("Of = %d files %.9v, %d, want %d %.9v, %d", len(got), got, e, len(want), want, code)
	}
}

// expectAt fails unless At answers just this.
func expectAt(t *testing.T, s api.Store, id, p string, want api.File, code api.Errno) {
	t.Helper()
	if got, e := flat.At(s, id, p); got != want || e != code {
		t.Errorf("At(%q, %q) = %v, %d, want %v, %d", id, p, got, e, want, code)
	}
}

// expectPeel fails unless Peel answers just this.
func expectPeel(t *testing.T, s api.Store, id string, kind int, want string, code api.Errno) {
	t.Helper()
	if got, e := flat.Peel(s, id, kind); got != want || e != code {
		t.Errorf("Peel(%q, %d) = %q, %d, want %q, %d", id, kind, got, e, want, code)
	}
}

// plainOf follows P18.2 from a tree on that exists.
func plainOf(s api.Store, id, dir string, files []api.File) ([]api.File, api.Errno) {
	o, _ := store.Get(s, id)
	entries, _ := tree.Parse(o.Body)
	for _, x := range entries {
		p := dir + x.Name
		if !path.Is(p) {
			return nil, api.ErrBadPath
		}
		below, e := store.Get(s, x.Id)
		if x.Mode == api.ModeDir {
			if e != api.OK {
				return nil, api.ErrMissingObject
			}
			if below.Kind != api.Tree {
				return nil, api.ErrKind
			}
			if files, e = plainOf(s, x.Id, p+"/", files); e != api.OK {
				return nil, e
			}
			continue
		}
		if e == api.OK && below.Kind != api.Blob {
			return nil, api.ErrKind
		}
		files = append(files, api.File{Path: p, Mode: x.Mode, Id: x.Id})
		if len(files) > 4096 {
			return nil, api.ErrTooLarge
		}
	}
	return files, api.OK
}

// P18.2: files of all modes at all depths, in order, whether their blobs exist or not; from a tree, a commit and tags.
func TestOf(t *testing.T) {
	b := &box{t: t}
	blob := b.put(api.Blob, "x")
	sub := b.tree(entry(1, "c", id(1)), entry(2, "d", blob))
	root := b.tree(entry(1, "a.b", blob), entry(4, "a", sub), entry(3, "a0", id(2)), entry(4, "b", b.tree(entry(4, "b", sub))), entry(4, "e", b.tree()))
	want := []api.File{
		{Path: "a.b", Mode: 1, Id: blob},
		{Path: "a/c", Mode: 1, Id: id(1)},
		{Path: "a/d", Mode: 2, Id: blob},
		{Path: "a0", Mode: 3, Id: id(2)},
		{Path: "b/b/c", Mode: 1, Id: id(1)},
		{Path: "b/b/d", Mode: 2, Id: blob},
	}
	c := b.commit(root)
	v := b.tag(c, api.Commits)
	for _, id := range []string{root, c, v, b.tag(v, api.Tags), b.tag(root, api.Tree), b.commit(root, c)} {
		expectOf(t, b.s, id, want, api.OK)
	}
	expectOf(t, b.s, b.tree(), nil, api.OK)
	b.drop(c)
	expectOf(t, b.s, root, want, api.OK)
	expectOf(t, b.s, v, nil, api.ErrMissingObject)
	expectOf(t, b.s, "", nil, api.ErrMissingObject)
	expectOf(t, api.Store{}, root, nil, api.ErrMissingObject)
	expectOf(t, b.s, blob, nil, api.ErrKind)
	expectOf(t, b.s, b.tag(blob, api.Blob), nil, api.ErrKind)
}

// P18.2: each error of an entry, in any two of which the one that comes first is told, at any depth.
func TestOfErrors(t *testing.T) {
	b := &box{t: t}
	blob, empty := b.put(api.Blob, "x"), b.tree()
	c := b.commit(empty)
	v := b.tag(blob, api.Blob)
	tall := empty
	for range api.MaxDeep {
		tall = b.tree(entry(4, "t", tall))
	}
	type sort struct {
		mode int
		id   string
		want api.Errno
	}
	sorts := []sort{
		{4, id(1), api.ErrMissingObject}, {4, blob, api.ErrKind}, {4, c, api.ErrKind}, {4, v, api.ErrKind}, {4, tall, api.ErrBadPath}, {4, empty, api.OK},
		{1, id(1), api.OK}, {1, blob, api.OK}, {1, empty, api.ErrKind}, {1, c, api.ErrKind}, {1, v, api.ErrKind},
		{2, id(1), api.OK}, {2, blob, api.OK}, {2, empty, api.ErrKind},
		{3, id(1), api.OK}, {3, blob, api.OK}, {3, empty, api.ErrKind}, {3, c, api.ErrKind}, {3, v, api.ErrKind},
	}
	for _, x := range sorts {
		for _, y := range sorts {
			first, second := entry(x.mode, "m", x.id), entry(y.mode, "n", y.id)
			want := x.want
			if want == api.OK {
				want = y.want
			}
			for _, root := range []string{
				b.tree(first, second),
				b.tree(entry(1, "a", blob), first, second),
				b.tree(entry(4, "a", b.tree(first)), second),
				b.tree(first, entry(4, "z", b.tree(second))),
				b.tree(entry(4, "a", b.tree(entry(4, "b", b.tree(first, second))))),
			} {
				if _, e := flat.Of(b.s, root); e != want {
					t.Errorf("Of = %d, want %d: %v, %v", e, want, x, y)
				}
				plain, e := plainOf(b.s, root, "", nil)
				expectOf(t, b.s, root, plain, e)
			}
		}
	}
}

// nested adds a chain of n directories, of names of size bytes, around a tree.
func (b *box) nested(n, size int, id string) string {
	for range n {
		id = b.tree(entry(4, strings.Repeat("x", size), id))
	}
	return id
}

// P18.2: the limits of paths, for files and for directories, empty and missing ones too.
func TestOfPaths(t *testing.T) {
	b := &box{t: t}
	blob, empty := b.put(api.Blob, "x"), b.tree()
	name := strings.Repeat("y", 15)
	for _, x := range []api.Entry{entry(1, name, blob), entry(3, name, id(1)), entry(4, name, empty)} {
		leaf := b.tree(x)
		var want []api.File
		if x.Mode != api.ModeDir {
			want = []api.File{{Path: deep(15, 15) + "/" + name, Mode: x.Mode, Id: x.Id}}
		}
		expectOf(t, b.s, b.nested(15, 15, leaf), want, api.OK)
		expectOf(t, b.s, b.nested(16, 15, leaf), nil, api.ErrBadPath)
		expectOf(t, b.s, b.nested(16, 1, leaf), nil, api.ErrBadPath)
		expectOf(t, b.s, b.nested(1, 16, b.nested(14, 15, leaf)), nil, api.ErrBadPath)
		expectOf(t, b.s, b.nested(14, 15, b.nested(1, 16, leaf)), nil, api.ErrBadPath)
	}
	for _, wrong := range []api.Entry{entry(4, name+"y", id(1)), entry(4, name+"y", blob), entry(1, name+"y", empty)} {
		expectOf(t, b.s, b.nested(15, 15, b.tree(wrong)), nil, api.ErrBadPath)
		expectOf(t, b.s, b.nested(16, 1, b.tree(wrong)), nil, api.ErrBadPath)
	}
	expectOf(t, b.s, b.nested(16, 15, empty), nil, api.OK)
	expectOf(t, b.s, b.nested(17, 1, empty), nil, api.ErrBadPath)
}

// P18.2: a tree without files that fits one place may not fit another one that is deeper, or whose path is longer.
func TestOfBare(t *testing.T) {
	b := &box{t: t}
	long := b.nested(1, 64, b.tree())
	tall := b.nested(14, 1, b.tree())
	for _, x := range []struct {
		first, second string
		want          api.Errno
	}{
		{b.nested(3, 61, long), b.nested(3, 62, long), api.OK},                          // 1 + 3 * 63 + 65 bytes
		{b.nested(3, 61, long), b.nested(2, 62, b.nested(1, 63, long)), api.ErrBadPath}, // as deep, but longer
		{b.nested(1, 3, tall), b.nested(1, 4, tall), api.OK},
		{b.nested(1, 3, tall), b.nested(2, 1, tall), api.ErrBadPath}, // as long, but deeper
		{tall, b.nested(1, 1, tall), api.OK},
		{tall, b.nested(2, 1, tall), api.ErrBadPath},
	} {
		root := b.tree(entry(4, "a", x.first), entry(4, "b", x.second))
		if _, e := plainOf(b.s, root, "", nil); e != x.want {
			t.Fatalf("the plain reference answers %d", e)
		}
		expectOf(t, b.s, root, nil, x.want)
		root = b.tree(entry(4, "a", b.tree(entry(1, "f", id(1)), entry(4, "x", x.first))), entry(4, "b", b.tree(entry(1, "f", id(1)), entry(4, "x", x.second))))
		plain, e := plainOf(b.s, root, "", nil)
		expectOf(t, b.s, root, plain, e)
	}
}

// R1: a few trees make up more directories than could ever be gone through.
func TestOfMuch(t *testing.T) {
	b := &box{t: t}
	top := b.tree()
	for range api.MaxDeep {
		var entries []api.Entry
		for i := range api.MaxEntries {
			entries = append(entries, entry(4, id(i)[:4], top))
		}
		top = b.tree(entries...)
	}
	expectOf(t, b.s, top, nil, api.OK)
	expectOf(t, b.s, b.tree(entry(4, "a", top)), nil, api.ErrBadPath)
	top = b.tree(entry(1, "f", id(1)))
	for range api.MaxDeep - 1 {
		top = b.tree(entry(4, "a", top), entry(4, "b", top))
	}
	expectOf(t, b.s, top, nil, api.ErrTooLarge)
}

// P18.2: the limit of files, and which errors go ahead of it.
func TestOfLimit(t *testing.T) {
	b := &box{t: t}
	blob, empty := b.put(api.Blob, "x"), b.tree()
	var entries []api.Entry
	for i := range api.MaxEntries {
		entries = append(entries, entry(1, "n"+id(i)[:4], blob))
	}
	dir := b.tree(entries...)
	four := []api.Entry{entry(4, "a", dir), entry(4, "b", dir), entry(4, "c", dir), entry(4, "d", dir)}
	most := b.tree(four...)
	want, _ := plainOf(b.s, most, "", nil)
	if len(want) != api.MaxFiles {
		t.Fatalf("there are %d files", len(want))
	}
	expectOf(t, b.s, most, want, api.OK)
	expect := func(code api.Errno, more ...api.Entry) {
		t.Helper()
		root := b.tree(append(slices.Clone(four), more...)...)
		if code == api.OK {
			expectOf(t, b.s, root, want, code)
		} else {
			expectOf(t, b.s, root, nil, code)
		}
	}
	expect(api.OK, entry(4, "e", empty))
	expect(api.ErrTooLarge, entry(1, "e", blob))
	expect(api.ErrTooLarge, entry(2, "e", id(1)))
	expect(api.ErrTooLarge, entry(4, "e", b.tree(entry(3, "e", id(1)))))
	expect(api.ErrTooLarge, entry(1, "e", blob), entry(1, "f", empty))
	expect(api.ErrTooLarge, entry(1, "e", blob), entry(4, "f", id(1)))
	expect(api.ErrKind, entry(1, "e", empty))
	expect(api.ErrKind, entry(1, "e", empty), entry(1, "f", blob))
	expect(api.ErrKind, entry(4, "e", blob))
	expect(api.ErrMissingObject, entry(4, "e", id(1)), entry(1, "f", blob))
	expect(api.ErrBadPath, entry(4, "e", b.nested(15, 1, b.tree(entry(1, "f", blob)))))
	expect(api.ErrBadPath, entry(4, "e", b.nested(15, 1, b.tree(entry(1, "f", empty)))))
	expect(api.ErrTooLarge, entry(4, "e", b.nested(14, 1, b.tree(entry(1, "f", blob)))))
}

// plainWrite returns the trees of a list, with the root as the last one.
func plainWrite(t *testing.T, l []api.File, dir string) []api.Item {
	t.Helper()
	var entries []api.Entry
	var items []api.Item
	for i := 0; i < len(l); {
		name, _, below := strings.Cut(l[i].Path[len(dir):], "/")
		if !below {
			entries = append(entries, entry(l[i].Mode, name, l[i].Id))
			i++
			continue
		}
		end := i
		for end < len(l) && strings.HasPrefix(l[end].Path, dir+name+"/") {
			end++
		}
		items = append(items, plainWrite(t, l[i:end], dir+name+"/")...)
		entries = append(entries, entry(4, name, items[len(items)-1].Id))
		i = end
	}
	b := &box{t: t}
	id := b.tree(entries...)
	return append(items, api.Item{Id: id, Kind: api.Tree, Body: b.s.Items[0].Body})
}

// expectWrite fails unless Write answers the store with the list's trees, and they read back as the list.
func expectWrite(t *testing.T, s api.Store, l []api.File) {
	t.Helper()
	items := plainWrite(t, l, "")
	b := &box{t: t, s: s}
	for _, x := range items {
		b.put(x.Kind, x.Body)
	}
	root := items[len(items)-1].Id
	got, id, e := flat.Write(s, l)
	if !same(got, b.s) || id != root || e != api.OK {
		t.Errorf("Write(%d items, %.9v) = %d items, %q, %d, want %d, %q", len(s.Items), l, len(got.Items), id, e, len(b.s.Items), root)
	}
	expectOf(t, got, id, l, api.OK)
	again, same2, e := flat.Write(got, l)
	if !same(again, got) || same2 != id || e != api.OK {
		t.Errorf("Write(%.9v) again = %d items, %q, %d", l, len(again.Items), same2, e)
	}
}

// expectWriteError fails unless Write answers just this error.
func expectWriteError(t *testing.T, s api.Store, l []api.File, code api.Errno) {
	t.Helper()
	if got, id, e := flat.Write(s, l); len(got.Items) != 0 || id != "" || e != code {
		t.Errorf("Write of %d files = %d items, %q, %d, want %d", len(l), len(got.Items), id, e, code)
	}
}

// P18.3: the examples.
func TestWriteExamples(t *testing.T) {
	l := files("a/b", "c")
	s, root, e := flat.Write(api.Store{}, l)
	if len(s.Items) != 2 || e != api.OK {
		t.Errorf("Write = %v, %d", s, e)
	}
	a, e := flat.At(s, root, "a")
	if a.Path != "a" || a.Mode != api.ModeDir || e != api.OK || !store.Has(s, a.Id) || a.Id == root {
		t.Errorf("At = %v, %d", a, e)
	}
	for _, l := range [][]api.File{nil, {}} {
		s, root, e := flat.Write(api.Store{}, l)
		if len(s.Items) != 1 || s.Items[0] != (api.Item{Id: root, Kind: api.Tree}) || e != api.OK {
			t.Errorf("Write = %v, %q, %d", s, root, e)
		}
	}
}

// P18.3, P18.10: all valid lists out of a few paths; a store that has other objects, or all the trees, or some.
func TestWrite(t *testing.T) {
	b := &box{t: t}
	b.commit(b.tree(entry(1, "x", b.put(api.Blob, "x"))))
	for _, l := range validLists(pool) {
		expectWrite(t, b.s, l)
		if len(l) > 2 {
			some, _, _ := flat.Write(b.s, l[1:])
			expectWrite(t, some, l)
		}
	}
	expectWrite(t, api.Store{}, []api.File{{Path: "a/x", Mode: 1, Id: id(1)}, {Path: "b/x", Mode: 1, Id: id(1)}, {Path: "c/c/x", Mode: 1, Id: id(1)}})
	expectWrite(t, api.Store{}, []api.File{{Path: deep(16, 15), Mode: 3, Id: id(1)}})
}

// P18.3: the errors of Check, and directories with too many entries; nothing is answered beside them.
func TestWriteErrors(t *testing.T) {
	var none api.Store
	expectWriteError(t, none, files("b", "a"), api.ErrUnsorted)
	expectWriteError(t, none, files("a", "a/b"), api.ErrPathConflict)
	expectWriteError(t, none, files("a/"), api.ErrBadPath)
	expectWriteError(t, none, []api.File{{Path: "a", Mode: api.ModeDir, Id: id(1)}}, api.ErrInvalid)
	expectWriteError(t, none, many(api.MaxFiles+1, ""), api.ErrTooLarge)

	for _, dir := range []string{"", "d", "d/e/f"} {
		full := many(api.MaxEntries, dir)
		expectWrite(t, none, full)
		expectWriteError(t, none, many(api.MaxEntries+1, dir), api.ErrTooLarge)
		expectWriteError(t, none, append(slices.Clone(full), file(path.Under(dir, "z/z"))), api.ErrTooLarge)
		expectWrite(t, none, append(full[1:], file(path.Under(dir, "z/z"))))
		expectWriteError(t, none, append(many(api.MaxEntries+1, dir), file("a")), api.ErrUnsorted)
	}
	var dirs []api.File
	for i := range api.MaxEntries + 1 {
		dirs = append(dirs, api.File{Path: id(i)[:4] + "/x", Mode: 1, Id: id(0)})
	}
	expectWriteError(t, none, dirs, api.ErrTooLarge)
	expectWrite(t, none, dirs[1:])
}

// P18.3: a store that has no room for the trees, just enough, or has them already.
func TestWriteFull(t *testing.T) {
	l := files("a/b/c", "a/d", "e/f")
	trees, _, _ := flat.Write(api.Store{}, l)
	if len(trees.Items) != 4 {
		t.Fatalf("there are %d trees", len(trees.Items))
	}
	var blobs api.Store
	for i := range api.MaxItems {
		o := api.Object{Kind: api.Blob, Body: fmt.Sprint(i)}
		one, _, _ := store.Put(api.Store{}, o)
		blobs.Items = append(blobs.Items, one.Items...)
	}
	slices.SortFunc(blobs.Items, func(a, b api.Item) int { return strings.Compare(a.Id, b.Id) })
	for room := range 6 {
		s := api.Store{Items: blobs.Items[room:]}
		if room < 4 {
			expectWriteError(t, s, l, api.ErrTooLarge)
		} else {
			expectWrite(t, s, l)
		}
	}
	full, _ := store.Union(trees, api.Store{Items: blobs.Items[4:]})
	expectWrite(t, full, l)
	expectWriteError(t, full, files("a/b/c", "a/d", "e/g"), api.ErrTooLarge)
}

// P18.3: a store with another object under the ID of a tree; a directory with too many entries goes ahead of that.
func TestWriteCollision(t *testing.T) {
	l := files("a/b/c", "a/d", "e/f")
	trees, _, _ := flat.Write(api.Store{}, l)
	for at := range trees.Items {
		forged := api.Store{Items: slices.Clone(trees.Items)}
		forged.Items[at].Kind = api.Blob
		expectWriteError(t, forged, l, api.ErrCollision)
		expectWriteError(t, forged, append(slices.Clone(l), many(api.MaxEntries, "")...), api.ErrTooLarge)
	}
}

// R1: as many directories as there can be are written in good time.
func TestWriteMuch(t *testing.T) {
	var l []api.File
	for i := range api.MaxFiles {
		l = append(l, api.File{Path: id(i / 4)[:4] + "/" + id(i)[:4] + strings.Repeat("/x", 14), Mode: 1, Id: id(i)})
	}
	s, root, e := flat.Write(api.Store{}, l)
	if want := 1 + api.MaxEntries + 14*api.MaxFiles; len(s.Items) != want || e != api.OK {
		t.Fatalf("Write = %d items, %d, want %d", len(s.Items), e, want)
	}
	expectOf(t, s, root, l, api.OK)
}

// P18.4, P18.11: the files of a list and their directories are found, and nothing else.
func TestAt(t *testing.T) {
	b := &box{t: t}
	for _, l := range validLists(pool) {
		s, root, _ := flat.Write(b.s, l)
		expectAt(t, s, root, "", api.File{Mode: api.ModeDir, Id: root}, api.OK)
		for _, p := range append([]string{"b/a", "a/b/c/d", "c", "A", "a/a", "a.b/c", "/", "a/", "/a", "a//b", "a/.", "..", ".graft", "a\x00", deep(17, 1)}, pool...) {
			want, found := flat.Find(l, p)
			in := flat.Under(l, p)
			for i := range in {
				in[i].Path = in[i].Path[len(p)+1:]
			}
			switch {
			case found:
				expectAt(t, s, root, p, want, api.OK)
			case len(in) > 0:
				_, sub, _ := flat.Write(api.Store{}, in)
				expectAt(t, s, root, p, api.File{Path: p, Mode: api.ModeDir, Id: sub}, api.OK)
			default:
				expectAt(t, s, root, p, api.File{}, api.ErrNotFound)
			}
		}
	}
}

// P18.4: from a commit and from tags; the errors, in their order.
func TestAtErrors(t *testing.T) {
	b := &box{t: t}
	var none api.File
	blob := b.put(api.Blob, "x")
	sub := b.tree(entry(1, "f", blob), entry(4, "gone", id(1)))
	root := b.tree(entry(4, "blob", blob), entry(4, "dir", sub), entry(2, "file", id(2)), entry(4, "gone", id(3)), entry(3, "tree", sub))
	c := b.commit(root)
	v := b.tag(c, api.Commits)
	for _, from := range []string{root, c, v, b.tag(v, api.Tags)} {
		expectAt(t, b.s, from, "", api.File{Mode: 4, Id: root}, api.OK)
		expectAt(t, b.s, from, "dir", api.File{Path: "dir", Mode: 4, Id: sub}, api.OK)
		expectAt(t, b.s, from, "dir/f", api.File{Path: "dir/f", Mode: 1, Id: blob}, api.OK)
		expectAt(t, b.s, from, "file", api.File{Path: "file", Mode: 2, Id: id(2)}, api.OK)
		expectAt(t, b.s, from, "tree", api.File{Path: "tree", Mode: 3, Id: sub}, api.OK)
		expectAt(t, b.s, from, "gone", api.File{Path: "gone", Mode: 4, Id: id(3)}, api.OK)
		expectAt(t, b.s, from, "blob", api.File{Path: "blob", Mode: 4, Id: blob}, api.OK)
		expectAt(t, b.s, from, "dir/gone", api.File{Path: "dir/gone", Mode: 4, Id: id(1)}, api.OK)
		for p, want := range map[string]api.Errno{
			"x": api.ErrNotFound, "dir/x": api.ErrNotFound, "x/f": api.ErrNotFound, "file/f": api.ErrNotFound, "tree/f": api.ErrNotFound, "dir/f/f": api.ErrNotFound,
			"gone/f": api.ErrMissingObject, "gone/f/f": api.ErrMissingObject, "dir/gone/f": api.ErrMissingObject,
			"blob/f": api.ErrKind, "blob/f/f": api.ErrKind,
			"gone/": api.ErrNotFound, "gone//f": api.ErrNotFound, "blob/..": api.ErrNotFound, "gone/" + deep(16, 1): api.ErrNotFound, "gone/" + deep(15, 1): api.ErrMissingObject,
		} {
			expectAt(t, b.s, from, p, none, want)
		}
	}
	for _, p := range []string{"", "f", "dir/f", "a//b", "/", "\x00"} {
		expectAt(t, b.s, "", p, none, api.ErrMissingObject)
		expectAt(t, b.s, id(9), p, none, api.ErrMissingObject)
		expectAt(t, b.s, b.commit(id(9)), p, none, api.ErrMissingObject)
		expectAt(t, b.s, blob, p, none, api.ErrKind)
		expectAt(t, b.s, b.tag(blob, api.Blob), p, none, api.ErrKind)
		expectAt(t, api.Store{}, root, p, none, api.ErrMissingObject)
	}
}

// P18.9: from objects of all kinds to all kinds, and to integers that are none.
func TestPeel(t *testing.T) {
	b := &box{t: t}
	blob := b.put(api.Blob, "x")
	root := b.tree(entry(1, "f", blob))
	c := b.commit(root)
	chains := [][]string{{}, {blob}, {root}, {c, root}}
	for range 3 {
		for _, chain := range chains {
			next := id(1)
			if len(chain) > 0 {
				next = chain[0]
			}
			chains = append(chains, append([]string{b.tag(next, api.Tags)}, chain...), append([]string{b.commit(next, c)}, chain...))
		}
	}
	kind := func(id string) int {
		o, _ := store.Get(b.s, id)
		return o.Kind
	}
	for _, chain := range chains {
		from, last := id(1), 0
		if len(chain) > 0 {
			from, last = chain[0], kind(chain[len(chain)-1])
		}
		for _, want := range []int{1, 2, 3, 4, 0, 5, -1, 257} {
			at := slices.IndexFunc(chain, func(id string) bool { return kind(id) == want })
			switch {
			case at >= 0:
				expectPeel(t, b.s, from, want, chain[at], api.OK)
			case last == api.Blob || last == api.Tree:
				expectPeel(t, b.s, from, want, "", api.ErrKind)
			default:
				expectPeel(t, b.s, from, want, "", api.ErrMissingObject)
			}
		}
	}
	for _, s := range []api.Store{{}, b.s} {
		for _, from := range []string{"", "x", id(9)} {
			for want := range 6 {
				expectPeel(t, s, from, want, "", api.ErrMissingObject)
			}
		}
	}
}

// P18.9: a chain of all the objects of a store, to its very end.
func TestPeelLong(t *testing.T) {
	b := &box{t: t}
	last := b.tree()
	expectPeel(t, b.s, last, api.Tree, last, api.OK)
	first := last
	for range 100 {
		first = b.tag(first, api.Tags)
	}
	expectPeel(t, b.s, first, api.Tree, last, api.OK)
	expectPeel(t, b.s, first, api.Tags, first, api.OK)
	expectPeel(t, b.s, first, api.Blob, "", api.ErrKind)
	b.drop(last)
	expectPeel(t, b.s, first, api.Tree, "", api.ErrMissingObject)
	expectPeel(t, b.s, first, 0, "", api.ErrMissingObject)
}

// P18.2, P18.10: many trees, wrong ones too, against a plain reference; what is read writes the same tree where no directory is empty.
func TestTrees(t *testing.T) {
	for seed := range 2000 {
		draw := draws(uint64(seed))
		b := &box{t: t}
		empty := b.tree()
		b.commit(b.tree(entry(1, "f", b.put(api.Blob, "x"))))
		trees := []string{b.tree(entry(1, "f", id(1)))}
		for range draw(12) {
			var entries []api.Entry
			for range 1 + draw(3) {
				name := []string{"a", "a.", "a0", "b", strings.Repeat("x", 64)}[draw(5)]
				e := entry(1+draw(3), name, id(draw(5)))
				if draw(2) > 0 {
					e = entry(4, name, trees[max(0, len(trees)-1-draw(3))])
				}
				if draw(40) == 0 {
					e.Id = b.s.Items[draw(len(b.s.Items))].Id
				}
				if draw(40) == 0 {
					e = entry(4, name, []string{empty, id(6)}[draw(2)])
				}
				entries = tree.Put(entries, e)
			}
			trees = append(trees, b.tree(entries...))
		}
		root := trees[len(trees)-1]
		want, e := plainOf(b.s, root, "", nil)
		expectOf(t, b.s, root, want, e)
		if e != api.OK {
			continue
		}
		if e := flat.Check(want); e != api.OK {
			t.Fatalf("Check(%v) = %d", want, e)
		}
		got, id, e := flat.Write(b.s, want)
		if e != api.OK || !slices.Contains(directories(b.s, root), empty) && (!same(got, b.s) || id != root) {
			t.Errorf("Write(%v) = %q, %d, want %q", want, id, e, root)
		}
	}
}

// directories returns the IDs of the directories of a tree.
func directories(s api.Store, root string) []string {
	var ids []string
	o, _ := store.Get(s, root)
	entries, _ := tree.Parse(o.Body)
	for _, x := range entries {
		if x.Mode == api.ModeDir {
			ids = append(append(ids, x.Id), directories(s, x.Id)...)
		}
	}
	return ids
}

// R1: stores that aren't well formed have no specified answers, but answers.
func TestForged(t *testing.T) {
	loop := id(1)
	b := &box{t: t}
	b.tree(entry(4, "a", loop), entry(4, "b", loop))
	b.commit(loop)
	b.tag(loop, api.Tags)
	forged := []api.Item{{}, {Kind: 9}, {Kind: api.Tree, Body: "x"}, {Kind: api.Commits, Body: "x"}, {Kind: api.Tags}}
	forged = append(forged, b.s.Items...)
	for _, x := range forged {
		x.Id = loop
		for _, s := range []api.Store{{Items: []api.Item{x}}, {Items: []api.Item{x, {Id: "a"}, x}}} {
			for kind := range 6 {
				flat.Peel(s, loop, kind)
			}
			flat.Of(s, loop)
			flat.At(s, loop, deep(16, 1))
			flat.At(s, loop, strings.ReplaceAll(deep(16, 1), "x", "a"))
			flat.Write(s, files("a/b"))
		}
	}
}
