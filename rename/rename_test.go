package rename_test

import (
	"cmp"
	"slices"
	"strconv"
	"strings"
	"testing"

	"graftage/api"
	"graftage/change"
	"graftage/flat"
	"graftage/rename"
)

// id returns an object ID that begins with the digits of n.
func id(n int) string {
	digits := strconv.FormatInt(int64(n), 16)
	return strings.Repeat("0", 4-len(digits)) + digits + strings.Repeat("0a", 18)
}

// file returns a regular file.
func file(p string, n int) api.File {
	return api.File{Path: p, Mode: api.ModeFile, Id: id(n)}
}

// link returns a symbolic link.
func link(p string, n int) api.File {
	return api.File{Path: p, Mode: api.ModeLink, Id: id(n)}
}

// added returns the change that adds a file.
func added(f api.File) api.Change {
	return api.Change{Kind: api.ChangeAdded, New: f}
}

// deleted returns the change that deletes a file.
func deleted(f api.File) api.Change {
	return api.Change{Kind: api.ChangeDeleted, Old: f}
}

// modified returns the change from one file to another one at its path.
func modified(f, g api.File) api.Change {
	return api.Change{Kind: api.ChangeModified, Old: f, New: g}
}

// renamed returns the change from one file to another one at another path.
func renamed(f, g api.File, score int) api.Change {
	return api.Change{Kind: api.ChangeRenamed, Old: f, New: g, Score: score}
}

// draws returns numbers below n that depend on seed alone.
func draws(seed uint64) func(n int) int {
	return func(n int) int {
		seed = seed*6364136223846793005 + 1442695040888963407
		return int((seed >> 33) % uint64(n))
	}
}

// sortPath returns the path that a change is sorted by.
func sortPath(c api.Change) string {
	if c.Kind == api.ChangeDeleted {
		return c.Old.Path
	}
	return c.New.Path
}

// sorted returns changes sorted by path, a deletion ahead of others.
func sorted(l ...api.Change) []api.Change {
	out := slices.Clone(l)
	slices.SortStableFunc(out, func(a, b api.Change) int {
		return cmp.Or(cmp.Compare(sortPath(a), sortPath(b)), cmp.Compare(deletedFirst(a), deletedFirst(b)))
	})
	return out
}

// deletedFirst returns a number that is least for deletions.
func deletedFirst(c api.Change) int {
	if c.Kind == api.ChangeDeleted {
		return 0
	}
	return 1
}

// same fails unless two lists of changes are the same.
func same(t *testing.T, what string, l, got, want []api.Change) {
	t.Helper()
	if !slices.Equal(got, want) {
		t.Errorf("%s(%v) = %v, want %v", what, l, got, want)
	}
}

// paths holds paths some of which have the same last component.
var paths = []string{"a", "b", "d/a", "d/b", "d/e/a", "d/e/g", "f/a", "f/b", "g", "g0"}

// anyList returns a random file list; its files are from few kinds.
func anyList(next func(n int) int, kinds int) []api.File {
	var l []api.File
	for _, p := range paths {
		if n := next(2 * kinds); n < kinds {
			l = append(l, api.File{Path: p, Mode: []int{1, 1, 1, 2, 3}[next(5)], Id: id(n)})
		}
	}
	return l
}

// anyChanges returns the changes between random file lists, at times with renames of any files already.
func anyChanges(next func(n int) int, kinds int) []api.Change {
	olds, news := anyList(next, kinds), anyList(next, kinds)
	var l []api.Change
	for tries := next(2) * next(10); tries > 0 && len(olds) > 0 && len(news) > 0; tries-- {
		i, k := next(len(olds)), next(len(news))
		if olds[i].Path != news[k].Path {
			l = append(l, renamed(olds[i], news[k], next(101)))
			olds, news = without(olds, i), without(news, k)
		}
	}
	return sorted(append(l, change.Of(olds, news)...)...)
}

// without returns a list without the element at an index.
func without[T any](l []T, at int) []T {
	return slices.Delete(slices.Clone(l), at, at+1)
}

// name returns the last component of a path.
func name(p string) string {
	return p[strings.LastIndex(p, "/")+1:]
}

// paired returns a list with a deletion and an addition, at these indexes, as one rename.
func paired(l []api.Change, deletion, addition, score int) []api.Change {
	out := slices.Clone(l)
	out[addition] = renamed(l[deletion].Old, l[addition].New, score)
	return without(out, deletion)
}

// plainExact looks, for each addition in turn, at each deletion.
func plainExact(l []api.Change) []api.Change {
	out := slices.Clone(l)
	for _, c := range l {
		if c.Kind != api.ChangeAdded {
			continue
		}
		first, named := -1, -1
		for i, d := range out {
			if d.Kind != api.ChangeDeleted || d.Old.Id != c.New.Id || (d.Old.Mode == 3) != (c.New.Mode == 3) {
				continue
			}
			if first < 0 {
				first = i
			}
			if named < 0 && name(d.Old.Path) == name(c.New.Path) {
				named = i
			}
		}
		if named >= 0 {
			first = named
		}
		if first >= 0 {
			out = paired(out, first, slices.Index(out, c), 100)
		}
	}
	return out
}

// P20.1: the examples, and each rule by which a file is chosen.
func TestExactExamples(t *testing.T) {
	exec := api.File{Path: "b", Mode: api.ModeExec, Id: id(1)}
	for _, x := range []struct{ l, want []api.Change }{
		{nil, nil},
		{sorted(deleted(file("a", 1)), added(file("b", 1))), sorted(renamed(file("a", 1), file("b", 1), 100))},
		{sorted(deleted(file("b", 1)), added(file("a", 1))), sorted(renamed(file("b", 1), file("a", 1), 100))},
		{sorted(deleted(file("d/a", 1)), deleted(file("e/a", 1)), added(file("f/a", 1))), sorted(renamed(file("d/a", 1), file("f/a", 1), 100), deleted(file("e/a", 1)))},
		{sorted(deleted(file("d/b", 1)), deleted(file("e/a", 1)), added(file("f/a", 1))), sorted(renamed(file("e/a", 1), file("f/a", 1), 100), deleted(file("d/b", 1)))},
		{sorted(deleted(file("d/b", 1)), deleted(file("e/c", 1)), added(file("f/a", 1))), sorted(renamed(file("d/b", 1), file("f/a", 1), 100), deleted(file("e/c", 1)))},
		{sorted(deleted(file("x", 1)), added(file("d/y", 1)), added(file("e/x", 1))), sorted(renamed(file("x", 1), file("d/y", 1), 100), added(file("e/x", 1)))},
		{sorted(deleted(file("x", 1)), deleted(file("y", 1)), added(file("d/y", 1)), added(file("e/y", 1))), sorted(renamed(file("y", 1), file("d/y", 1), 100), renamed(file("x", 1), file("e/y", 1), 100))},
		{sorted(deleted(file("a", 1)), added(exec)), sorted(renamed(file("a", 1), exec, 100))},
		{sorted(deleted(exec), added(file("a", 1))), sorted(renamed(exec, file("a", 1), 100))},
		{sorted(deleted(link("a", 1)), added(link("b", 1))), sorted(renamed(link("a", 1), link("b", 1), 100))},
		{sorted(deleted(link("a", 1)), added(file("b", 1))), sorted(deleted(link("a", 1)), added(file("b", 1)))},
		{sorted(deleted(file("a", 1)), added(link("b", 1))), sorted(deleted(file("a", 1)), added(link("b", 1)))},
		{sorted(deleted(link("a", 1)), deleted(file("c", 1)), added(file("b", 1))), sorted(deleted(link("a", 1)), renamed(file("c", 1), file("b", 1), 100))},
		{sorted(deleted(file("a", 1)), added(file("b", 2))), sorted(deleted(file("a", 1)), added(file("b", 2)))},
		{sorted(modified(file("a", 1), file("a", 2)), added(file("b", 1)), deleted(file("c", 2))), sorted(modified(file("a", 1), file("a", 2)), added(file("b", 1)), deleted(file("c", 2)))},
		{sorted(renamed(file("a", 1), file("b", 2), 50), added(file("c", 1)), deleted(file("d", 2))), sorted(renamed(file("a", 1), file("b", 2), 50), added(file("c", 1)), deleted(file("d", 2)))},
		{sorted(renamed(file("a", 1), file("b", 2), 50), added(file("a", 2)), deleted(file("b", 2))), sorted(renamed(file("a", 1), file("b", 2), 50), renamed(file("b", 2), file("a", 2), 100))},
	} {
		same(t, "Exact", x.l, rename.Exact(x.l), x.want)
	}
}

// P20.1, P20.3, P20.7: changes between random file lists, and lists that have renames already, against plain references.
func TestExact(t *testing.T) {
	next := draws(11)
	found := 0
	for n := range 40000 {
		l := anyChanges(next, 1+n%4)
		got := rename.Exact(l)
		same(t, "Exact", l, got, plainExact(l))
		if rename.HasDuplicates(l) || rename.HasDuplicates(got) {
			t.Errorf("a path occurs twice in %v or in %v", l, got)
		}
		found += len(l) - len(got)
		if !slices.ContainsFunc(l, func(c api.Change) bool { return c.Kind == api.ChangeRenamed }) {
			same(t, "Split of Exact", l, rename.Split(got), plainSplit(l))
		}
		same(t, "Split", l, rename.Split(l), plainSplit(l))
		same(t, "Split of Exact", l, rename.Split(got), plainSplit(got))
		same(t, "Exact of Exact", got, rename.Exact(got), got)
	}
	if found < 10000 {
		t.Errorf("%d renames were found", found)
	}
}

// P20.7: changes with renames lead to the same files.
func TestApply(t *testing.T) {
	next := draws(13)
	for n := range 10000 {
		a, b := anyList(next, 1+n%4), anyList(next, 1+n%4)
		l := change.Of(a, b)
		exact := rename.Exact(l)
		if got, e := change.Apply(a, exact); !slices.Equal(got, b) || e != api.OK {
			t.Errorf("Apply(%v, %v) = %v, %d", a, exact, got, e)
		}
		same(t, "Split of Exact", l, rename.Split(exact), l)
		same(t, "Split", l, rename.Split(l), l)
	}
}

// plainSplit puts deletions and additions together path by path.
func plainSplit(l []api.Change) []api.Change {
	var out []api.Change
	var split []string
	for _, c := range l {
		switch c.Kind {
		case api.ChangeModified:
			out = append(out, c)
		case api.ChangeRenamed:
			split = append(split, c.Old.Path, c.New.Path)
		default:
			split = append(split, sortPath(c))
		}
	}
	slices.Sort(split)
	for _, p := range slices.Compact(split) {
		var old, new api.File
		for _, c := range l {
			if c.Kind != api.ChangeAdded && c.Kind != api.ChangeModified && c.Old.Path == p {
				old = c.Old
			}
			if c.Kind != api.ChangeDeleted && c.Kind != api.ChangeModified && c.New.Path == p {
				new = c.New
			}
		}
		switch {
		case old == new:
		case old.Path == "":
			out = append(out, added(new))
		case new.Path == "":
			out = append(out, deleted(old))
		default:
			out = append(out, modified(old, new))
		}
	}
	return sorted(out...)
}

// P20.3: renames alone, chains, swaps, and files that come out the same.
func TestSplitExamples(t *testing.T) {
	for _, x := range []struct{ l, want []api.Change }{
		{nil, nil},
		{sorted(renamed(file("b", 1), file("a", 2), 60)), sorted(added(file("a", 2)), deleted(file("b", 1)))},
		{sorted(renamed(file("a", 1), file("b", 2), 60), renamed(file("b", 3), file("c", 4), 60)), sorted(deleted(file("a", 1)), modified(file("b", 3), file("b", 2)), added(file("c", 4)))},
		{sorted(renamed(file("a", 1), file("b", 1), 100), renamed(file("b", 2), file("a", 2), 100)), sorted(modified(file("a", 1), file("a", 2)), modified(file("b", 2), file("b", 1)))},
		{sorted(renamed(file("a", 1), file("b", 1), 100), renamed(file("b", 1), file("a", 1), 100)), nil},
		{sorted(renamed(file("a", 1), file("b", 1), 100), deleted(file("b", 1))), sorted(deleted(file("a", 1)))},
		{sorted(renamed(file("a", 1), file("b", 1), 100), deleted(link("b", 1))), sorted(deleted(file("a", 1)), modified(link("b", 1), file("b", 1)))},
		{sorted(added(file("a", 2)), renamed(file("a", 1), file("b", 1), 100)), sorted(modified(file("a", 1), file("a", 2)), added(file("b", 1)))},
		{sorted(deleted(file("a", 1)), added(file("a", 2))), sorted(modified(file("a", 1), file("a", 2)))},
		{sorted(deleted(file("a", 1)), added(file("a", 1))), nil},
		{sorted(modified(file("a", 1), file("a", 2)), added(file("b", 1)), deleted(file("c", 2))), sorted(modified(file("a", 1), file("a", 2)), added(file("b", 1)), deleted(file("c", 2)))},
	} {
		same(t, "Split", x.l, rename.Split(x.l), x.want)
		slices.Reverse(x.l) // which isn't sorted by path, but comes out so
		same(t, "Split", x.l, rename.Split(x.l), x.want)
	}
}

// P20.4, P20.5: the renames by their old paths; of two with one old path, the first one counts.
func TestMap(t *testing.T) {
	var l, want []api.Change
	for i := range 20 {
		l = append(l, added(file("a"+strconv.Itoa(i), 1)), renamed(file("c", i), file("b"+strconv.Itoa(i), 1), i))
	}
	for i := range 20 {
		want = append(want, renamed(file("c", i), file("b"+strconv.Itoa(i), 1), i))
	}
	first := renamed(file("a0", 1), file("d", 1), 3)
	l = append(l, first, deleted(file("e", 1)), modified(file("f", 1), file("f", 2)))
	same(t, "Map", l, rename.Map(l), append([]api.Change{first}, want...))
	for p, want := range map[string]string{"a0": "d", "c": "b0", "a1": "a1", "b0": "b0", "d": "d", "e": "e", "f": "f", "": "", "z": "z"} {
		if got := rename.NewPath(l, p); got != want {
			t.Errorf("NewPath(%q) = %q, want %q", p, got, want)
		}
	}
	for _, none := range [][]api.Change{nil, {}, {added(file("a", 1)), deleted(file("b", 1)), {Kind: 3, Old: file("c", 1), New: file("d", 1)}}} {
		same(t, "Map", none, rename.Map(none), nil)
		if got := rename.NewPath(none, "c"); got != "c" {
			t.Errorf("NewPath = %q", got)
		}
	}
}

// P20.4, P20.5: random lists.
func TestMapRandom(t *testing.T) {
	next := draws(17)
	for range 5000 {
		l := anyChanges(next, 3)
		left := make(map[string]string)
		count := 0
		for _, c := range l {
			if c.Kind == api.ChangeRenamed {
				left[c.Old.Path] = c.New.Path
				count++
			}
		}
		got := rename.Map(l)
		if len(got) != count {
			t.Errorf("Map(%v) = %v", l, got)
		}
		for i, c := range got {
			if !slices.Contains(l, c) || i > 0 && got[i-1].Old.Path >= c.Old.Path {
				t.Errorf("Map(%v) = %v", l, got)
			}
		}
		for _, p := range paths {
			want, ok := left[p]
			if !ok {
				want = p
			}
			if got := rename.NewPath(l, p); got != want {
				t.Errorf("NewPath(%v, %q) = %q, want %q", l, p, got, want)
			}
		}
	}
}

// P20.6: each pair of changes, with all of their paths the same or not.
func TestHasDuplicates(t *testing.T) {
	plain := func(l []api.Change) bool {
		for i, c := range l {
			for _, d := range l[:i] {
				if c.Kind != 1 && d.Kind != 1 && c.Old.Path == d.Old.Path || c.Kind != 2 && d.Kind != 2 && c.New.Path == d.New.Path {
					return true
				}
			}
		}
		return false
	}
	var all []api.Change
	for kind := range 6 {
		for _, old := range []string{"", "a", "b"} {
			for _, new := range []string{"", "a", "b"} {
				all = append(all, api.Change{Kind: kind, Old: file(old, len(all)), New: file(new, len(all))})
			}
		}
	}
	expect := func(l ...api.Change) {
		if got := rename.HasDuplicates(l); got != plain(l) {
			t.Errorf("HasDuplicates(%v) = %t", l, got)
		}
	}
	expect()
	for _, c := range all {
		expect(c)
		for _, d := range all {
			expect(c, d)
			expect(c, added(file("z", 1)), deleted(file("z", 1)), d)
			for _, e := range all[:27] {
				expect(c, d, e)
			}
		}
	}
}

// R3: the list stays as it is, its spare capacity too, and no answer shares memory with it.
func TestListStays(t *testing.T) {
	spare := added(file("spare", 1))
	backing := append(sorted(deleted(file("a", 1)), added(file("b", 1)), renamed(file("c", 1), file("d", 1), 9), modified(file("e", 1), file("e", 2))), spare, spare)
	want := slices.Clone(backing)
	for _, l := range [][]api.Change{backing[:4], backing[1:4], backing[2:4]} {
		found, e := rename.Find(api.Store{}, l, 50)
		if e != api.OK {
			t.Errorf("Find = %d", e)
		}
		for _, got := range [][]api.Change{rename.Exact(l), found, rename.Split(l), rename.Map(l)} {
			clear(got[:cap(got)])
		}
		rename.NewPath(l, "c")
		rename.HasDuplicates(l)
	}
	if !slices.Equal(backing, want) {
		t.Errorf("the list is %v now", backing)
	}
}

// R1: as many files as a list may have, all of them alike, in good time.
func TestExactMany(t *testing.T) {
	var a, b []api.File
	for i := range api.MaxFiles {
		a, b = append(a, file("a/"+id(i)[:4], 1)), append(b, file("b/"+id(api.MaxFiles - 1 - i)[:4], 1))
	}
	slices.Reverse(b)
	if flat.Check(a) != api.OK || flat.Check(b) != api.OK {
		t.Fatalf("the lists aren't valid")
	}
	for i, c := range rename.Exact(change.Of(a, b)) {
		if c != renamed(a[i], b[i], 100) {
			t.Errorf("%d is %v", i, c)
		}
	}
	half := rename.Exact(change.Of(a[:1], b))
	if len(half) != api.MaxFiles || half[0] != renamed(a[0], b[0], 100) || half[1] != added(b[1]) {
		t.Errorf("Exact = %d changes", len(half))
	}
}
