package change_test

import (
	"cmp"
	"maps"
	"slices"
	"strings"
	"testing"
	"time"

	"graftage/api"
	"graftage/change"
	"graftage/commit"
	"graftage/flat"
	"graftage/object"
	"graftage/store"
	"graftage/tree"
)

// box is a store under construction.
type box struct {
	t       *testing.T
	objects map[string]api.Object
}

// newBox returns an empty box.
func newBox(t *testing.T) *box {
	return &box{t: t, objects: make(map[string]api.Object)}
}

// store returns the objects so far.
func (b *box) store() api.Store {
	var s api.Store
	for _, id := range slices.Sorted(maps.Keys(b.objects)) {
		s.Items = append(s.Items, api.Item{Id: id, Kind: b.objects[id].Kind, Body: b.objects[id].Body})
	}
	return s
}

// put adds an object.
func (b *box) put(kind int, body string) string {
	o := api.Object{Kind: kind, Body: body}
	id := object.Id(o)
	b.objects[id] = o
	return id
}

// blob adds a blob.
func (b *box) blob(text string) string {
	return b.put(api.Blob, text)
}

// tree adds a tree of entries in any order.
func (b *box) tree(entries ...api.Entry) string {
	b.t.Helper()
	var l []api.Entry
	for _, x := range entries {
		l = tree.Put(l, x)
	}
	body, e := tree.Body(l)
	if e != api.OK {
		b.t.Fatalf("tree.Body(%v) = %d", l, e)
	}
	return b.put(api.Tree, body)
}

// commit adds a commit.
func (b *box) commit(tree string) string {
	b.t.Helper()
	who := api.Person{Name: "a", Mail: "a@b", Time: 5}
	body, e := commit.Body(api.Commit{Tree: tree, Author: who, Committer: who})
	if e != api.OK {
		b.t.Fatalf("commit.Body = %d", e)
	}
	return b.put(api.Commits, body)
}

// tag adds a tag.
func (b *box) tag(id string, kind int) string {
	b.t.Helper()
	body, e := commit.TagBody(api.Tag{Object: id, Kind: kind, Name: "v", Tagger: api.Person{Name: "a", Mail: "a@b"}})
	if e != api.OK {
		b.t.Fatalf("commit.TagBody = %d", e)
	}
	return b.put(api.Tags, body)
}

// list adds the trees of a file list.
func (b *box) list(l []api.File) string {
	b.t.Helper()
	s, root, e := flat.Write(api.Store{}, l)
	if e != api.OK {
		b.t.Fatalf("flat.Write = %d", e)
	}
	for _, x := range s.Items {
		b.put(x.Kind, x.Body)
	}
	return root
}

// digits returns the four digits of a number that are the first ones of its ID.
func digits(n int) string {
	return id(n)[:4]
}

// nested adds a chain of n directories around an object.
func (b *box) nested(n int, name, id string) string {
	for range n {
		id = b.tree(dir(name, id))
	}
	return id
}

// dir returns the entry of a directory.
func dir(name, id string) api.Entry {
	return api.Entry{Mode: api.ModeDir, Name: name, Id: id}
}

// leaf returns the entry of a regular file.
func leaf(name, id string) api.Entry {
	return api.Entry{Mode: api.ModeFile, Name: name, Id: id}
}

// plain follows P19.4 step by step, and collects the files that differ.
type plain struct {
	s          api.Store
	olds, news []api.File
}

// entries reads a directory.
func (x *plain) entries(id string) (map[string]api.Entry, api.Errno) {
	byName := make(map[string]api.Entry)
	if id == "" {
		return byName, api.OK
	}
	o, e := store.Get(x.s, id)
	if e != api.OK {
		return nil, api.ErrMissingObject
	}
	if o.Kind != api.Tree {
		return nil, api.ErrKind
	}
	l, _ := tree.Parse(o.Body)
	for _, entry := range l {
		byName[entry.Name] = entry
	}
	return byName, api.OK
}

// below returns the tree of an entry that may be a directory, and takes it for a file otherwise.
func (x *plain) below(entry api.Entry, p string, files *[]api.File) (string, api.Errno) {
	switch entry.Mode {
	case 0:
		return "", api.OK
	case api.ModeDir:
		return entry.Id, api.OK
	}
	if o, e := store.Get(x.s, entry.Id); e == api.OK && o.Kind != api.Blob {
		return "", api.ErrKind
	}
	*files = append(*files, api.File{Path: p, Mode: entry.Mode, Id: entry.Id})
	return "", api.OK
}

// walk compares two directories.
func (x *plain) walk(prefix, a, b string) api.Errno {
	olds, e := x.entries(a)
	if e != api.OK {
		return e
	}
	news, e := x.entries(b)
	if e != api.OK {
		return e
	}
	names := slices.AppendSeq(slices.Collect(maps.Keys(olds)), maps.Keys(news))
	slices.Sort(names)
	for _, name := range slices.Compact(names) {
		if olds[name] == news[name] {
			continue
		}
		oldTree, e := x.below(olds[name], prefix+name, &x.olds)
		if e != api.OK {
			return e
		}
		newTree, e := x.below(news[name], prefix+name, &x.news)
		if e != api.OK {
			return e
		}
		if olds[name].Mode == api.ModeDir || news[name].Mode == api.ModeDir {
			if e := x.walk(prefix+name+"/", oldTree, newTree); e != api.OK {
				return e
			}
		}
	}
	return api.OK
}

// plainTrees compares two trees.
func plainTrees(s api.Store, a, b string) ([]api.Change, api.Errno) {
	x := &plain{s: s}
	for _, id := range []*string{&a, &b} {
		if *id == "" {
			continue
		}
		root, e := flat.Peel(s, *id, api.Tree)
		if e != api.OK {
			return nil, e
		}
		*id = root
	}
	if e := x.walk("", a, b); e != api.OK {
		return nil, e
	}
	for _, l := range [][]api.File{x.olds, x.news} {
		slices.SortFunc(l, func(f, g api.File) int { return cmp.Compare(f.Path, g.Path) })
		if e := flat.Check(l); e != api.OK {
			return nil, e
		}
	}
	return plainOf(x.olds, x.news), api.OK
}

// expectTrees fails unless Trees answers just this.
func expectTrees(t *testing.T, s api.Store, a, b string, want []api.Change, code api.Errno) {
	t.Helper()
	if got, e := change.Trees(s, a, b); !slices.Equal(got, want) || e != code {
		t.Errorf("Trees(%.4q, %.4q) = %d changes %.9v, %d, want %d %.9v, %d", a, b, len(got), got, e, len(want), want, code)
	}
}

// P19.4, P19.8: the trees of all pairs of small lists, and of none.
func TestTrees(t *testing.T) {
	lists := validLists("a", "a.b", "a/b", "a/c/d", "b")
	b := newBox(t)
	var roots []string
	for _, l := range lists {
		roots = append(roots, b.list(l))
	}
	s := b.store()
	for i, x := range lists {
		expectTrees(t, s, roots[i], "", change.Of(x, nil), api.OK)
		expectTrees(t, s, "", roots[i], change.Of(nil, x), api.OK)
		for k, y := range lists {
			expectTrees(t, s, roots[i], roots[k], change.Of(x, y), api.OK)
		}
	}
	expectTrees(t, s, "", "", nil, api.OK)
	expectTrees(t, api.Store{}, "", "", nil, api.OK)
}

// P19.4: trees, commits and tags of both are followed to a tree, with the errors of the first one ahead.
func TestTreesRoots(t *testing.T) {
	b := newBox(t)
	blob := b.blob("x")
	x := b.tree(leaf("x", blob))
	y := b.tree(leaf("y", blob))
	c := b.commit(x)
	v := b.tag(b.tag(c, api.Commits), api.Tags)
	want := []api.Change{deleted(api.File{Path: "x", Mode: 1, Id: blob}), added(api.File{Path: "y", Mode: 1, Id: blob})}
	wrong := map[string]api.Errno{
		id(1):                         api.ErrMissingObject,
		"x":                           api.ErrMissingObject,
		blob:                          api.ErrKind,
		b.tag(blob, api.Blob):         api.ErrKind,
		b.commit(id(1)):               api.ErrMissingObject,
		b.commit(blob):                api.ErrKind,
		b.tag(id(1), api.Tree):        api.ErrMissingObject,
		b.tag(c[1:]+"0", api.Commits): api.ErrMissingObject,
	}
	s := b.store()
	for _, old := range []string{x, c, v} {
		expectTrees(t, s, old, y, want, api.OK)
		expectTrees(t, s, y, old, change.Invert(want), api.OK)
		expectTrees(t, s, old, x, nil, api.OK)
		for id, code := range wrong {
			expectTrees(t, s, old, id, nil, code)
			expectTrees(t, s, id, old, nil, code)
		}
	}
	for id, code := range wrong {
		expectTrees(t, s, id, "", nil, code)
		expectTrees(t, s, "", id, nil, code)
		for other := range wrong {
			expectTrees(t, s, id, other, nil, code)
		}
	}
}

// P19.4: what is the same on both sides isn't read: neither the root nor a directory nor a file.
func TestTreesSame(t *testing.T) {
	b := newBox(t)
	blob, empty := b.blob("x"), b.tree()
	same := []api.Entry{dir("a", id(1)), dir("b", blob), dir("c", b.tree(dir("d", id(2)))), leaf("e", empty), leaf("f", id(3))}
	x := b.tree(append(slices.Clone(same), leaf("x", blob))...)
	y := b.tree(append(slices.Clone(same), dir("y", b.tree(leaf("z", blob))))...)
	deep := b.tree(dir("m", b.tree(append(slices.Clone(same), leaf("x", blob))...)), leaf("n", empty))
	other := b.tree(dir("m", b.tree(append(slices.Clone(same), leaf("x", id(4)))...)), leaf("n", empty))
	s := b.store()
	expectTrees(t, s, x, x, nil, api.OK)
	expectTrees(t, s, x, y, []api.Change{deleted(api.File{Path: "x", Mode: 1, Id: blob}), added(api.File{Path: "y/z", Mode: 1, Id: blob})}, api.OK)
	expectTrees(t, s, deep, other, []api.Change{modified(api.File{Path: "m/x", Mode: 1, Id: blob}, file("m/x", 4))}, api.OK)
	for _, tree := range []string{x, y, deep, other} {
		_, e := plainTrees(s, tree, "")
		if e == api.OK {
			t.Errorf("nothing is wrong with the tree")
		}
		expectTrees(t, s, tree, "", nil, e)
		expectTrees(t, s, "", tree, nil, e)
	}
	missing := b.commit(id(1))
	expectTrees(t, b.store(), missing, missing, nil, api.ErrMissingObject)
	expectTrees(t, b.store(), id(1), id(1), nil, api.ErrMissingObject)
}

// P19.4: each error of an entry, in any two of which the one whose name comes first is told, on either side.
func TestTreesErrors(t *testing.T) {
	b := newBox(t)
	blob, empty := b.blob("x"), b.tree()
	c := b.commit(empty)
	sorts := []api.Entry{
		{}, dir("", id(1)), dir("", blob), dir("", c), dir("", empty), dir("", b.tree(dir("d", id(1)))), dir("", b.tree(leaf("d", empty))),
		leaf("", id(1)), leaf("", blob), leaf("", empty), leaf("", c), {Mode: 3, Id: empty}, {Mode: 2, Id: blob}, {Mode: 3, Id: id(1)},
	}
	// The name sorts behind the directory's as an entry, and ahead of all in there as a path.
	entries := func(first, second api.Entry) []api.Entry {
		first.Name, second.Name = "m", "m.n"
		return slices.DeleteFunc([]api.Entry{first, second}, func(x api.Entry) bool { return x.Mode == 0 })
	}
	var roots []string
	for _, first := range sorts {
		for _, second := range sorts {
			l := entries(first, second)
			roots = append(roots, b.tree(l...), b.tree(dir("k", b.tree(l...)), leaf("l", empty)))
		}
	}
	s := b.store()
	met := make(map[api.Errno]int)
	for _, x := range roots {
		for _, y := range append(roots[len(roots)/3:], "") {
			want, code := plainTrees(s, x, y)
			met[code]++
			expectTrees(t, s, x, y, want, code)
		}
	}
	for _, code := range []api.Errno{api.OK, api.ErrKind, api.ErrMissingObject} {
		if met[code] < 100 {
			t.Errorf("%d came %d times", code, met[code])
		}
	}
}

// P19.4: which of the errors of one entry, and of two, goes ahead.
func TestTreesErrorOrder(t *testing.T) {
	b := newBox(t)
	blob, empty := b.blob("x"), b.tree()
	one := func(entries ...api.Entry) string { return b.tree(entries...) }
	cases := []struct {
		old, new string
		want     api.Errno
	}{
		{one(leaf("a", empty)), one(leaf("a", blob)), api.ErrKind},
		{one(leaf("a", blob)), one(leaf("a", empty)), api.ErrKind},
		{one(leaf("a", empty)), one(dir("a", id(1))), api.ErrKind},
		{one(dir("a", id(1))), one(leaf("a", empty)), api.ErrKind},
		{one(dir("a", id(1))), one(leaf("a", blob)), api.ErrMissingObject},
		{one(dir("a", id(1))), one(dir("a", blob)), api.ErrMissingObject},
		{one(dir("a", blob)), one(dir("a", id(1))), api.ErrKind},
		{one(dir("a", one(dir("b", id(1))))), one(dir("a", blob)), api.ErrKind},
		{one(dir("a", one(dir("b", id(1))))), one(dir("a", one(leaf("c", empty)))), api.ErrMissingObject},
		{one(dir("a", one(dir("c", id(1))))), one(dir("a", one(leaf("b", empty)))), api.ErrKind},
		{one(dir("a", id(1))), one(leaf("a.b", empty)), api.ErrMissingObject},
		{one(leaf("a", empty)), one(dir("a", empty)), api.ErrKind},
		{one(dir("a", empty)), one(leaf("a", id(1))), api.OK},
		{one(leaf("a", id(1)), dir("b", empty)), one(leaf("a", id(2))), api.OK},
	}
	s := b.store()
	for _, x := range cases {
		if _, e := change.Trees(s, x.old, x.new); e != x.want {
			t.Errorf("Trees = %d, want %d: %v", e, x.want, x)
		}
	}
}

// grow adds random trees over trees and blobs, some of which are missing or of the wrong kind, and returns their IDs.
func (b *box) grow(next func(n int) int, faults bool) []string {
	blobs := []string{b.blob(""), b.blob("x"), b.blob("y")}
	trees := []string{b.tree()}
	some := func(l []string) string { return l[next(len(l))] }
	for range 60 {
		var entries []api.Entry
		for _, name := range []string{"a", "a.b", "a0", "b", "c"} {
			x := api.Entry{Mode: 1 + next(6), Name: name}
			switch {
			case x.Mode > api.ModeDir:
				continue
			case x.Mode == api.ModeDir:
				x.Id = some(trees)
			default:
				x.Id = some(blobs)
			}
			if faults && next(12) == 0 {
				x.Id = some([]string{id(1), some(trees), some(blobs)})
			}
			entries = append(entries, x)
		}
		trees = append(trees, b.tree(entries...))
	}
	return trees
}

// P19.4, P19.8: random trees, with faults and without, against the plain reference and against the lists of flat.
func TestTreesRandom(t *testing.T) {
	for seed := range 8 {
		b := newBox(t)
		faults := seed%2 == 0
		roots := append(b.grow(draws(uint64(seed)), faults), "")
		s := b.store()
		compared := 0
		for i := range roots {
			for k := range roots {
				x, y := roots[i], roots[k]
				if i > 40 && k > 40 && (i+k)%3 > 0 { // for the plain reference's sake
					continue
				}
				want, code := plainTrees(s, x, y)
				expectTrees(t, s, x, y, want, code)
				if faults || x == "" || y == "" {
					continue
				}
				olds, e1 := flat.Of(s, x)
				news, e2 := flat.Of(s, y)
				if e1 == api.OK && e2 == api.OK {
					compared++
					expectTrees(t, s, x, y, change.Of(olds, news), api.OK)
				}
			}
		}
		if !faults && compared < 100 {
			t.Errorf("%d lists were compared", compared)
		}
	}
}

// P19.4: the limits of paths bear on files that differ, not on directories, nor on what is the same.
func TestTreesPaths(t *testing.T) {
	b := newBox(t)
	x, y := b.tree(leaf("f", b.blob("x"))), b.tree(leaf("f", b.blob("y")))
	empty := b.tree()
	long := strings.Repeat("x", 62) // four of them and their slashes are 252 bytes
	cases := []struct {
		around func(id string) string
		want   api.Errno
	}{
		{func(id string) string { return b.nested(15, "d", id) }, api.OK},
		{func(id string) string { return b.nested(16, "d", id) }, api.ErrBadPath},
		{func(id string) string { return b.nested(17, "d", id) }, api.ErrBadPath},
		{func(id string) string { return b.nested(40, "d", id) }, api.ErrBadPath},
		{func(id string) string { return b.nested(1, "d", b.nested(4, long, id)) }, api.OK},
		{func(id string) string { return b.nested(1, "de", b.nested(4, long, id)) }, api.ErrBadPath},
		{func(id string) string { return b.nested(1, "de", b.nested(5, long, id)) }, api.ErrBadPath},
		{func(id string) string { return b.nested(30, long, id) }, api.ErrBadPath},
	}
	for _, c := range cases {
		inX, inY, inEmpty := c.around(x), c.around(y), c.around(empty)
		rootX, rootY := b.tree(dir("s", c.around(x)), leaf("z", id(1))), b.tree(dir("s", c.around(x)), leaf("z", id(2)))
		s := b.store()
		for _, two := range [][2]string{{inX, inY}, {inX, ""}, {"", inX}, {inX, inEmpty}, {inEmpty, inY}} {
			want, e := plainTrees(s, two[0], two[1])
			if e != c.want {
				t.Fatalf("the plain reference answers %d", e)
			}
			expectTrees(t, s, two[0], two[1], want, e)
		}
		expectTrees(t, s, inEmpty, "", nil, api.OK)
		expectTrees(t, s, "", inEmpty, nil, api.OK)
		expectTrees(t, s, rootX, rootY, []api.Change{modified(file("z", 1), file("z", 2))}, api.OK)
	}
}

// P19.4: the limit of files bears on those that differ, on each side by itself; the errors of reading go ahead, and the old files' errors go ahead of the new files'.
func TestTreesLimit(t *testing.T) {
	b := newBox(t)
	quarter := func(n int) string {
		var entries []api.Entry
		for i := range api.MaxEntries {
			entries = append(entries, leaf("n"+digits(i), id(n)))
		}
		return b.tree(entries...)
	}
	four := func(n int, more ...api.Entry) string {
		q := quarter(n)
		return b.tree(append(more, dir("a", q), dir("b", q), dir("c", q), dir("d", q))...)
	}
	wrong := b.nested(20, "d", b.tree(leaf("f", id(1))))
	x, y := four(1), four(2)
	moreX, moreY, edited := four(1, leaf("z", id(1))), four(2, leaf("z", id(2))), four(1, leaf("z", id(2)))
	bad := b.tree(dir("e", wrong))
	moreBad := four(1, leaf("z", id(1)), dir("e", wrong))
	fullBad := b.tree(dir("a", quarter(1)), dir("b", quarter(1)), dir("c", quarter(1)), dir("e", b.nested(20, "d", quarter(1))))
	twice := b.tree(dir("a", b.tree(leaf("f", id(1)))), dir("b", wrong))
	lowX, lowMoreX := b.nested(20, "d", x), b.nested(20, "d", moreX)
	missing, kind := four(1, leaf("z", id(1)), dir("zz", id(1))), four(1, leaf("z", id(1)), leaf("zz", x))
	s := b.store()
	for _, c := range []struct {
		old, new string
		want     api.Errno
	}{
		{x, "", api.OK}, {"", x, api.OK}, {x, y, api.OK}, {x, moreX, api.OK}, {moreX, x, api.OK}, {moreX, edited, api.OK},
		{moreX, "", api.ErrTooLarge}, {"", moreX, api.ErrTooLarge}, {moreX, y, api.ErrTooLarge}, {x, moreY, api.ErrTooLarge}, {moreX, moreY, api.ErrTooLarge},
		{bad, "", api.ErrBadPath}, {"", bad, api.ErrBadPath}, {bad, moreX, api.ErrBadPath}, {moreX, bad, api.ErrTooLarge},
		{moreBad, "", api.ErrTooLarge}, {"", moreBad, api.ErrTooLarge}, {x, moreBad, api.ErrBadPath}, {moreBad, x, api.ErrBadPath},
		{lowX, "", api.ErrBadPath}, {"", lowX, api.ErrBadPath}, {lowMoreX, "", api.ErrTooLarge}, {"", lowMoreX, api.ErrTooLarge}, {lowX, moreX, api.ErrBadPath}, {x, lowMoreX, api.ErrTooLarge},
		{twice, "", api.ErrBadPath}, {"", twice, api.ErrBadPath}, {fullBad, "", api.ErrBadPath}, {"", fullBad, api.ErrBadPath},
		{missing, "", api.ErrMissingObject}, {"", missing, api.ErrMissingObject}, {kind, "", api.ErrKind}, {"", kind, api.ErrKind}, {moreX, kind, api.ErrKind},
	} {
		want, e := plainTrees(s, c.old, c.new)
		if e != c.want {
			t.Fatalf("the plain reference answers %d, not %d", e, c.want)
		}
		expectTrees(t, s, c.old, c.new, want, e)
	}
}

// R1: a few trees make up more directories, with files and without, than could ever be gone through.
func TestTreesMuch(t *testing.T) {
	start := time.Now()
	b := newBox(t)
	wide := func(id string, n int) string {
		var entries []api.Entry
		for i := range n {
			entries = append(entries, dir("n"+digits(i), id))
		}
		return b.tree(entries...)
	}
	bare, full, other := b.tree(), b.tree(leaf("f", id(1))), b.tree(leaf("f", id(2)), leaf("g", id(2)))
	mixed := full
	for range 15 {
		bare, full, other = wide(bare, 900), wide(full, 900), wide(other, 900)
		mixed = b.tree(dir("a", bare), dir("b", mixed), dir("c", bare))
	}
	lost := b.tree(dir("a", full), dir("b", id(1)))
	s := b.store()
	for _, c := range []struct {
		old, new string
		want     api.Errno
	}{
		{bare, "", api.OK}, {"", bare, api.OK}, {full, "", api.ErrTooLarge}, {"", full, api.ErrTooLarge}, {full, other, api.ErrTooLarge},
		{full, bare, api.ErrTooLarge}, {bare, other, api.ErrTooLarge}, {mixed, bare, api.OK}, {"", mixed, api.OK}, {full, full, api.OK},
		{lost, "", api.ErrMissingObject}, {full, lost, api.ErrMissingObject}, {lost, other, api.ErrMissingObject},
	} {
		if l, e := change.Trees(s, c.old, c.new); e != c.want || len(l) > 1 {
			t.Errorf("Trees = %d changes, %d, want %d", len(l), e, c.want)
		}
	}
	if d := time.Since(start); d > 20*time.Second {
		t.Errorf("it took %s", d)
	}
}

// R1: a chain of directories nearly as deep as a store lets it be, of names as long as they may be.
func TestTreesDeep(t *testing.T) {
	start := time.Now()
	name := strings.Repeat("x", api.MaxName)
	for _, c := range []struct {
		bottom []api.Entry
		want   api.Errno
	}{
		{nil, api.OK},
		{[]api.Entry{leaf("f", id(1))}, api.ErrBadPath},
		{[]api.Entry{leaf("f", id(1)), dir("g", id(1))}, api.ErrMissingObject},
	} {
		b := newBox(t)
		top := b.nested(60000, name, b.tree(c.bottom...))
		other := b.nested(2, name, b.tree())
		s := b.store()
		expectTrees(t, s, top, "", nil, c.want)
		expectTrees(t, s, "", top, nil, c.want)
		expectTrees(t, s, other, top, nil, c.want)
	}
	if d := time.Since(start); d > 20*time.Second {
		t.Errorf("it took %s", d)
	}
}

// R1: stores that aren't well formed have no specified changes, but changes: trees that hold themselves, or are none.
func TestTreesForged(t *testing.T) {
	var entries []api.Entry
	for i := range 30 {
		entries = append(entries, dir("n"+digits(i), id(i%3)))
	}
	looped, _ := tree.Body(append(entries, leaf("z", id(9))))
	empty, _ := tree.Body(entries)
	for _, kind := range []int{0, 1, 2, 3, 4, 9} {
		for _, body := range []string{looped, empty, "", "x"} {
			s := api.Store{Items: []api.Item{{Id: id(0), Kind: api.Tree, Body: looped}, {Id: id(1), Kind: kind, Body: body}, {Id: id(2), Kind: api.Tree, Body: empty}}}
			for n := range 16 {
				change.Trees(s, id(n/4), id(n%4))
				change.Trees(s, id(n), "")
			}
		}
	}
}

// R3: the store stays as it is.
func TestTreesStay(t *testing.T) {
	b := newBox(t)
	x, y := b.list(many(3)), b.list(many(4)[1:])
	spare := api.Item{Id: "spare"}
	items := append(b.store().Items, spare, spare)
	want := slices.Clone(items)
	s := api.Store{Items: items[:len(items)-2]}
	l, e := change.Trees(s, x, y)
	if len(l) != 2 || e != api.OK {
		t.Errorf("Trees = %v, %d", l, e)
	}
	clear(l[:cap(l)])
	if !slices.Equal(items, want) {
		t.Errorf("the store has changed")
	}
}
