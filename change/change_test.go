package change_test

import (
	"math"
	"slices"
	"strconv"
	"strings"
	"testing"

	"graftage/api"
	"graftage/change"
	"graftage/flat"
)

// id returns an object ID that begins with the digits of n.
func id(n int) string {
	digits := strconv.FormatInt(int64(n), 16)
	return strings.Repeat("0", 4-len(digits)) + digits + strings.Repeat("0a", 18)
}

// file returns a regular file.
func file(p string, n int) api.File {
	return api.File{Path: p, Mode: api.ModeFile, Id: id(n)}
}

// added returns the change that adds a file.
func added(f api.File) api.Change {
	return api.Change{Kind: api.ChangeAdded, New: f}
}

// deleted returns the change that deletes a file.
func deleted(f api.File) api.Change {
	return api.Change{Kind: api.ChangeDeleted, Old: f}
}

// modified returns the change from one file to another one at its path.
func modified(f, g api.File) api.Change {
	return api.Change{Kind: api.ChangeModified, Old: f, New: g}
}

// renamed returns the change from one file to another one at another path.
func renamed(f, g api.File, score int) api.Change {
	return api.Change{Kind: api.ChangeRenamed, Old: f, New: g, Score: score}
}

// draws returns numbers below n that depend on seed alone.
func draws(seed uint64) func(n int) int {
	return func(n int) int {
		seed = seed*6364136223846793005 + 1442695040888963407
		return int((seed >> 33) % uint64(n))
	}
}

// many returns a valid list of n files in the root.
func many(n int) []api.File {
	var l []api.File
	for i := range n {
		l = append(l, file("n"+id(i)[:4], i))
	}
	return l
}

// validLists returns all valid lists in which each of some paths has no file, or one of three unlike ones.
func validLists(paths ...string) [][]api.File {
	lists := [][]api.File{nil}
	for _, p := range slices.Sorted(slices.Values(paths)) {
		for _, l := range lists {
			for _, f := range []api.File{file(p, 1), {Path: p, Mode: api.ModeExec, Id: id(1)}, file(p, 2)} {
				lists = append(lists, append(slices.Clone(l), f))
			}
		}
	}
	return slices.DeleteFunc(lists, func(l []api.File) bool { return flat.Check(l) != api.OK })
}

// at returns the file at a path, or the zero file.
func at(l []api.File, p string) api.File {
	for _, f := range l {
		if f.Path == p {
			return f
		}
	}
	return api.File{}
}

// pathsOf returns the paths of all files, sorted, each one once.
func pathsOf(lists ...[]api.File) []string {
	var paths []string
	for _, l := range lists {
		for _, f := range l {
			paths = append(paths, f.Path)
		}
	}
	slices.Sort(paths)
	return slices.Compact(paths)
}

// plainOf looks the files up at each path.
func plainOf(a, b []api.File) []api.Change {
	var l []api.Change
	for _, p := range pathsOf(a, b) {
		switch f, g := at(a, p), at(b, p); {
		case f == g:
		case f.Path == "":
			l = append(l, added(g))
		case g.Path == "":
			l = append(l, deleted(f))
		default:
			l = append(l, modified(f, g))
		}
	}
	return l
}

// expectOf fails unless Of answers just this.
func expectOf(t *testing.T, a, b []api.File, want ...api.Change) {
	t.Helper()
	if got := change.Of(a, b); !slices.Equal(got, want) {
		t.Errorf("Of(%v, %v) = %v, want %v", a, b, got, want)
	}
}

// P19.1: the example, and each kind of change.
func TestOfExamples(t *testing.T) {
	a, b := file("a", 1), file("b", 1)
	expectOf(t, []api.File{a, b}, []api.File{file("b", 2), file("c", 1)}, deleted(a), modified(b, file("b", 2)), added(file("c", 1)))
	exec := api.File{Path: "a", Mode: api.ModeExec, Id: id(1)}
	expectOf(t, []api.File{a}, []api.File{exec}, modified(a, exec))
	expectOf(t, []api.File{a}, []api.File{file("a/b", 1)}, deleted(a), added(file("a/b", 1)))
	expectOf(t, []api.File{a, b}, nil, deleted(a), deleted(b))
	expectOf(t, []api.File{}, []api.File{a, b}, added(a), added(b))
	expectOf(t, nil, nil)
	expectOf(t, nil, []api.File{})
}

// P19.1, P19.7: all pairs of small lists, against a plain reference; there and back.
func TestOf(t *testing.T) {
	lists := validLists("a", "a.b", "a/b", "b")
	for _, a := range lists {
		for _, b := range lists {
			l := change.Of(a, b)
			if want := plainOf(a, b); !slices.Equal(l, want) {
				t.Errorf("Of(%v, %v) = %v, want %v", a, b, l, want)
			}
			if got, e := change.Apply(a, l); !slices.Equal(got, b) || e != api.OK {
				t.Errorf("Apply(%v, %v) = %v, %d", a, l, got, e)
			}
			inverse := change.Invert(l)
			if got, e := change.Apply(b, inverse); !slices.Equal(got, a) || e != api.OK {
				t.Errorf("Apply(%v, %v) = %v, %d", b, inverse, got, e)
			}
			if again := change.Invert(inverse); !slices.Equal(again, l) || !slices.Equal(inverse, change.Of(b, a)) {
				t.Errorf("Invert(%v) = %v, and of that %v", l, inverse, again)
			}
		}
		expectOf(t, a, a)
	}
}

// P19.1, P19.7: lists as long as they may be.
func TestOfMany(t *testing.T) {
	most := many(api.MaxFiles)
	for _, other := range [][]api.File{nil, most[1:], most[:api.MaxFiles-1], append(slices.Clone(most[7:]), file("z", 1)), {file("a", 1)}} {
		for _, x := range [][2][]api.File{{most, other}, {other, most}} {
			l := change.Of(x[0], x[1])
			if got, e := change.Apply(x[0], l); !slices.Equal(got, x[1]) || e != api.OK {
				t.Errorf("Apply of %d changes = %d files, %d", len(l), len(got), e)
			}
			if want := plainOf(x[0], x[1]); !slices.Equal(l, want) {
				t.Errorf("Of = %d changes, want %d", len(l), len(want))
			}
		}
	}
}

// changeAt returns the change at a path.
func changeAt(l []api.Change, p string) api.Change {
	for _, c := range l {
		if c.Old.Path == p || c.New.Path == p {
			return c
		}
	}
	return api.Change{}
}

// P19.9: where two lists agree, so do the changes to them, whatever else is in the lists.
func TestLocality(t *testing.T) {
	paths := []string{"a", "a/b", "b"}
	lists := validLists(paths...)
	for _, a := range lists {
		for _, b := range lists {
			for _, c := range lists {
				for _, p := range paths {
					if at(b, p) != at(c, p) {
						continue
					}
					if x, y := changeAt(change.Of(a, b), p), changeAt(change.Of(a, c), p); x != y {
						t.Errorf("from %v to %v and %v: %v, %v", a, b, c, x, y)
					}
				}
			}
		}
	}
}

// plainApply follows P19.2 step by step.
func plainApply(a []api.File, l []api.Change) ([]api.File, api.Errno) {
	for _, c := range l {
		if !slices.Contains([]int{1, 2, 3, 4}, c.Kind) {
			return nil, api.ErrInvalid
		}
	}
	files := slices.Clone(a)
	for _, c := range l {
		if c.Kind == api.ChangeAdded {
			continue
		}
		first := slices.Index(files, c.Old)
		if first < 0 {
			return nil, api.ErrNotFound
		}
		files = slices.Delete(files, first, first+1)
	}
	for _, c := range l {
		if c.Kind == api.ChangeDeleted {
			continue
		}
		if slices.ContainsFunc(files, func(f api.File) bool { return f.Path == c.New.Path }) {
			return nil, api.ErrDuplicate
		}
		files = append(files, c.New)
	}
	var sorted []api.File
	for _, p := range pathsOf(files) {
		for _, f := range files {
			if f.Path == p {
				sorted = append(sorted, f)
			}
		}
	}
	if e := flat.Check(sorted); e != api.OK {
		return nil, e
	}
	return sorted, api.OK
}

// expectApply fails unless Apply answers just this.
func expectApply(t *testing.T, a []api.File, l []api.Change, want []api.File, code api.Errno) {
	t.Helper()
	if got, e := change.Apply(a, l); !slices.Equal(got, want) || e != code {
		t.Errorf("Apply(%.9v, %.9v) = %.9v, %d, want %.9v, %d", a, l, got, e, want, code)
	}
}

// P19.2: each kind of change, and each error, in their order.
func TestApplyExamples(t *testing.T) {
	a, b, c := file("a", 1), file("b", 1), file("c", 1)
	expectApply(t, nil, nil, nil, api.OK)
	expectApply(t, []api.File{a, c}, []api.Change{added(b)}, []api.File{a, b, c}, api.OK)
	expectApply(t, []api.File{a, b}, []api.Change{deleted(a)}, []api.File{b}, api.OK)
	expectApply(t, []api.File{a}, []api.Change{modified(a, file("a", 2))}, []api.File{file("a", 2)}, api.OK)
	expectApply(t, []api.File{a, b}, []api.Change{renamed(a, c, 7)}, []api.File{b, c}, api.OK)
	expectApply(t, []api.File{a, b}, []api.Change{renamed(a, file("b", 1), 100), renamed(b, file("a", 1), 100)}, []api.File{a, b}, api.OK)
	expectApply(t, []api.File{a}, []api.Change{added(file("a/b", 1)), deleted(a)}, []api.File{file("a/b", 1)}, api.OK)
	expectApply(t, []api.File{c, b, a}, nil, []api.File{a, b, c}, api.OK)
	expectApply(t, []api.File{a, a}, []api.Change{deleted(a)}, []api.File{a}, api.OK)

	expectApply(t, []api.File{a}, []api.Change{deleted(b)}, nil, api.ErrNotFound)
	expectApply(t, []api.File{a}, []api.Change{deleted(file("a", 2))}, nil, api.ErrNotFound)
	expectApply(t, []api.File{a}, []api.Change{modified(api.File{Path: "a", Mode: 2, Id: id(1)}, a)}, nil, api.ErrNotFound)
	expectApply(t, []api.File{a}, []api.Change{deleted(a), deleted(a)}, nil, api.ErrNotFound)
	expectApply(t, nil, []api.Change{added(a), deleted(a)}, nil, api.ErrNotFound)
	expectApply(t, []api.File{a}, []api.Change{added(file("a", 2))}, nil, api.ErrDuplicate)
	expectApply(t, nil, []api.Change{added(a), added(a)}, nil, api.ErrDuplicate)
	expectApply(t, []api.File{a, a}, []api.Change{deleted(a), added(a)}, nil, api.ErrDuplicate)
	expectApply(t, []api.File{b}, []api.Change{renamed(b, c, 1), added(c)}, nil, api.ErrDuplicate)
	expectApply(t, []api.File{a, a}, nil, nil, api.ErrUnsorted)
	expectApply(t, []api.File{a}, []api.Change{added(file("a/b", 1))}, nil, api.ErrPathConflict)
	expectApply(t, nil, []api.Change{added(file("a//b", 1))}, nil, api.ErrBadPath)
	expectApply(t, nil, []api.Change{added(api.File{Path: "a", Mode: 4, Id: id(1)})}, nil, api.ErrInvalid)

	for _, kind := range []int{math.MinInt, -1, 0, 5, 257, math.MaxInt} {
		wrong := api.Change{Kind: kind, Old: b, New: c}
		expectApply(t, []api.File{b}, []api.Change{wrong}, nil, api.ErrInvalid)
		expectApply(t, nil, []api.Change{deleted(a), wrong}, nil, api.ErrInvalid)
		expectApply(t, []api.File{a}, []api.Change{added(a), wrong}, nil, api.ErrInvalid)
	}
	expectApply(t, []api.File{a}, []api.Change{added(a), deleted(b)}, nil, api.ErrNotFound)
	expectApply(t, []api.File{a, {}}, []api.Change{added(file("/", 1)), added(a)}, nil, api.ErrDuplicate)
	expectApply(t, []api.File{a, {}}, []api.Change{{Kind: api.ChangeDeleted, New: a}}, []api.File{a}, api.OK)
	expectApply(t, nil, []api.Change{{Kind: api.ChangeAdded, Old: b, New: a, Score: 3}}, []api.File{a}, api.OK)
}

// P19.2: the limit of files.
func TestApplyLimit(t *testing.T) {
	most := many(api.MaxFiles)
	z := file("z", 1)
	expectApply(t, most, nil, most, api.OK)
	expectApply(t, most, []api.Change{added(z)}, nil, api.ErrTooLarge)
	expectApply(t, most, []api.Change{added(file("", 1))}, nil, api.ErrTooLarge)
	expectApply(t, most, []api.Change{added(most[0])}, nil, api.ErrDuplicate)
	expectApply(t, most, []api.Change{added(z), deleted(most[0])}, append(slices.Clone(most[1:]), z), api.OK)
}

// P19.2: files with the same path stay in order, which tells which of them is at fault.
func TestApplyOrder(t *testing.T) {
	wrong := api.File{Path: "m", Mode: 9}
	var early, late []api.File // the wrong one ahead of its namesakes, and behind them
	for i := range 80 {
		f := file("an"[i%2:][:1]+id(80 - i)[:4], i)
		early, late = append(early, f), append(late, f)
		switch {
		case i == 2:
			early, late = append(early, wrong), append(late, file("m", 1))
		case i == 60:
			early, late = append(early, file("m", 1)), append(late, wrong)
		case i%10 == 0 && i > 2:
			early, late = append(early, file("m", 1)), append(late, file("m", 1))
		}
	}
	expectApply(t, early, nil, nil, api.ErrInvalid)
	expectApply(t, late, nil, nil, api.ErrUnsorted)
	expectApply(t, early, []api.Change{deleted(wrong), added(file("z", 1))}, nil, api.ErrUnsorted)
	expectApply(t, late, []api.Change{deleted(early[0])}, nil, api.ErrUnsorted)
	expectApply(t, early, []api.Change{deleted(early[0])}, nil, api.ErrInvalid)
	// Of two that are alike, the first one is removed.
	m := file("m", 1)
	expectApply(t, []api.File{m, m, wrong, m}, nil, nil, api.ErrUnsorted)
	expectApply(t, []api.File{m, m, wrong, m}, []api.Change{deleted(m)}, nil, api.ErrInvalid)
}

// anyFile returns one of few files, some of which aren't valid.
func anyFile(next func(n int) int) api.File {
	paths := []string{"a", "b", "c", "d", "e", "a/b", "a.b", "b/c", "", "a//b"}
	f := file(paths[next(2+next(len(paths)-1))], next(2))
	if next(9) == 0 {
		f.Mode = next(6)
	}
	return f
}

// anyChange returns one of few changes; its kind is wrong in one case of odds.
func anyChange(next func(n int) int, odds int) api.Change {
	c := api.Change{Kind: 1 + next(4), Old: anyFile(next), New: anyFile(next), Score: next(3)}
	if next(odds) == 0 {
		c.Kind = []int{0, 5, -1}[next(3)]
	}
	return c
}

// P19.2: any files and any changes, against a plain reference.
func TestApplyAny(t *testing.T) {
	next := draws(3)
	met := make(map[api.Errno]int)
	for range 60000 {
		var a []api.File
		var l []api.Change
		for range next(6) {
			a = append(a, anyFile(next))
		}
		for range next(4) {
			c := anyChange(next, 30)
			if len(a) > 0 && next(4) != 0 {
				c.Old = a[next(len(a))]
			}
			l = append(l, c)
		}
		want, code := plainApply(a, l)
		met[code]++
		expectApply(t, a, l, want, code)
	}
	for _, code := range []api.Errno{api.OK, api.ErrInvalid, api.ErrNotFound, api.ErrDuplicate, api.ErrBadPath, api.ErrUnsorted, api.ErrPathConflict} {
		if met[code] < 100 {
			t.Errorf("%d came %d times", code, met[code])
		}
	}
}

// plainInvert follows P19.3: it takes out what sorts first, time and again.
func plainInvert(l []api.Change) []api.Change {
	kinds := map[int]int{1: 2, 2: 1}
	var left, out []api.Change
	for _, c := range l {
		kind, ok := kinds[c.Kind]
		if !ok {
			kind = c.Kind
		}
		left = append(left, api.Change{Kind: kind, Old: c.New, New: c.Old, Score: c.Score})
	}
	key := func(c api.Change) string {
		if c.Kind == 2 {
			return c.Old.Path
		}
		return c.New.Path
	}
	for len(left) > 0 {
		first := 0
		for i, c := range left {
			if key(c) < key(left[first]) {
				first = i
			}
		}
		out = append(out, left[first])
		left = slices.Delete(left, first, first+1)
	}
	return out
}

// P19.3: each kind, and renames, which move.
func TestInvertExamples(t *testing.T) {
	a, b, c := file("a", 1), file("b", 2), file("c", 3)
	for _, x := range []struct{ l, want []api.Change }{
		{nil, nil},
		{[]api.Change{added(a)}, []api.Change{deleted(a)}},
		{[]api.Change{deleted(a)}, []api.Change{added(a)}},
		{[]api.Change{modified(a, file("a", 2))}, []api.Change{modified(file("a", 2), a)}},
		{[]api.Change{renamed(a, b, 60)}, []api.Change{renamed(b, a, 60)}},
		{[]api.Change{added(b), renamed(a, c, 60)}, []api.Change{renamed(c, a, 60), deleted(b)}},
		{[]api.Change{renamed(b, a, 60), renamed(a, b, 70)}, []api.Change{renamed(b, a, 70), renamed(a, b, 60)}},
		{[]api.Change{renamed(c, a, 60), renamed(c, b, 70), added(c)}, []api.Change{renamed(a, c, 60), renamed(b, c, 70), deleted(c)}},
	} {
		if got := change.Invert(x.l); !slices.Equal(got, x.want) {
			t.Errorf("Invert(%v) = %v, want %v", x.l, got, x.want)
		}
	}
}

// plainPaths follows P19.5.
func plainPaths(l []api.Change) []string {
	var files []api.File
	for _, c := range l {
		files = append(files, c.Old, c.New)
	}
	return slices.DeleteFunc(pathsOf(files), func(p string) bool { return p == "" })
}

// P19.3, P19.5, P19.6: any changes, against plain references.
func TestAny(t *testing.T) {
	next := draws(5)
	for range 3000 {
		var l []api.Change
		for range next(50) {
			l = append(l, anyChange(next, 10))
		}
		if got, want := change.Invert(l), plainInvert(l); !slices.Equal(got, want) {
			t.Errorf("Invert(%v) = %v, want %v", l, got, want)
		}
		l = l[:min(len(l), next(5))]
		paths := plainPaths(l)
		if got := change.Paths(l); !slices.Equal(got, paths) {
			t.Errorf("Paths(%v) = %q, want %q", l, got, paths)
		}
		for _, dir := range []string{"", "a", "b", "a/b", "a/", "a.", "c", "/"} {
			want := slices.ContainsFunc(paths, func(p string) bool { return dir == "" || strings.HasPrefix(p, dir+"/") && len(p) > len(dir)+1 })
			if got := change.Touches(l, dir); got != want {
				t.Errorf("Touches(%v, %q) = %t", l, dir, got)
			}
		}
	}
}

// P19.5, P19.6: old and new paths count, of changes of all kinds, and each path once.
func TestPathsExamples(t *testing.T) {
	l := []api.Change{added(file("b/c", 1)), renamed(file("d/e/f", 1), file("a", 1), 50), modified(file("b/c", 1), file("b/c", 2)), deleted(file("g", 1)), {Kind: 9, Old: file("h", 1)}}
	if got := change.Paths(l); !slices.Equal(got, []string{"a", "b/c", "d/e/f", "g", "h"}) {
		t.Errorf("Paths = %q", got)
	}
	for dir, want := range map[string]bool{"": true, "b": true, "d": true, "d/e": true, "d/e/f": false, "b/c": false, "a": false, "g": false, "e": false, "b/": false, "d/": false} {
		if got := change.Touches(l, dir); got != want {
			t.Errorf("Touches(%q) = %t", dir, got)
		}
	}
	for _, none := range [][]api.Change{nil, {}, {{}}, {{Kind: api.ChangeAdded, New: api.File{Mode: 1, Id: id(1)}}}} {
		if len(change.Paths(none)) != 0 || change.Touches(none, "") || change.Touches(none, "a") {
			t.Errorf("of %v: %q", none, change.Paths(none))
		}
	}
}

// R3: arguments stay as they are, their spare capacity too, and no answer shares memory with them.
func TestArgumentsStay(t *testing.T) {
	spare := file("spare", 1)
	files := []api.File{file("a", 1), file("b", 1), spare, spare}
	changes := []api.Change{added(file("c", 1)), deleted(file("b", 1)), added(spare), added(spare)}
	filesBefore, changesBefore := slices.Clone(files), slices.Clone(changes)
	a, l := files[:2], changes[:2]
	for _, some := range [][]api.Change{change.Of(a, nil), change.Of(nil, a), change.Invert(l)} {
		clear(some[:cap(some)])
	}
	for _, some := range [][]api.Change{nil, l} {
		got, e := change.Apply(a, some)
		if len(got) != 2 || e != api.OK {
			t.Errorf("Apply = %v, %d", got, e)
		}
		clear(got[:cap(got)])
	}
	change.Paths(l)
	change.Touches(l, "")
	if !slices.Equal(files, filesBefore) || !slices.Equal(changes, changesBefore) {
		t.Errorf("the arguments are %v, %v now", files, changes)
	}
}

// R1: lists that aren't valid have no specified changes, but changes.
func TestAnyLists(t *testing.T) {
	next := draws(7)
	for range 3000 {
		var a, b []api.File
		for range next(6) {
			a, b = append(a, anyFile(next)), append(b, anyFile(next))
		}
		change.Of(a, b[next(len(b)+1):])
	}
}
