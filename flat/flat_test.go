package flat_test

import (
	"cmp"
	"math"
	"slices"
	"strconv"
	"strings"
	"testing"

	"graftage/api"
	"graftage/flat"
	"graftage/path"
)

// id returns an object ID that begins with the digits of n.
func id(n int) string {
	digits := strconv.FormatInt(int64(n), 16)
	return strings.Repeat("0", 4-len(digits)) + digits + strings.Repeat("0a", 18)
}

// file returns a file with a mode and an ID that depend on its path.
func file(p string) api.File {
	sum := 0
	for _, b := range []byte(p) {
		sum = (sum*31 + int(b)) % 0xffff
	}
	return api.File{Path: p, Mode: 1 + sum%3, Id: id(sum)}
}

// files returns files at some paths.
func files(paths ...string) []api.File {
	var l []api.File
	for _, p := range paths {
		l = append(l, file(p))
	}
	return l
}

// many returns a valid list of n files in the directory dir.
func many(n int, dir string) []api.File {
	var l []api.File
	for i := range n {
		l = append(l, api.File{Path: path.Under(dir, "n"+id(i)[:4]), Mode: 1 + i%3, Id: id(i)})
	}
	return l
}

// deep returns a path of n components of size bytes.
func deep(n, size int) string {
	return strings.Join(slices.Repeat([]string{strings.Repeat("x", size)}, n), "/")
}

// draws returns numbers below n that depend on seed alone.
func draws(seed uint64) func(n int) int {
	return func(n int) int {
		seed = seed*6364136223846793005 + 1442695040888963407
		return int((seed >> 33) % uint64(n))
	}
}

// within reports whether p is in the directory dir, which is not the root.
func within(dir, p string) bool {
	return strings.HasPrefix(p, dir+"/")
}

// plainCheck follows P18.1, in its order.
func plainCheck(l []api.File) api.Errno {
	if len(l) > 4096 {
		return api.ErrTooLarge
	}
	for i, f := range l {
		if !path.Is(f.Path) {
			return api.ErrBadPath
		}
		if f.Mode != 1 && f.Mode != 2 && f.Mode != 3 || len(f.Id) != 40 || strings.Trim(f.Id, "0123456789abcdef") != "" {
			return api.ErrInvalid
		}
		if i > 0 && f.Path <= l[i-1].Path {
			return api.ErrUnsorted
		}
	}
	for _, f := range l {
		for _, g := range l {
			if within(f.Path, g.Path) {
				return api.ErrPathConflict
			}
		}
	}
	return api.OK
}

// validLists returns all valid lists of files at some of the given paths.
func validLists(paths []string) [][]api.File {
	var all [][]api.File
	sorted := slices.Sorted(slices.Values(paths))
	for n := range 1 << len(sorted) {
		var l []api.File
		for i, p := range sorted {
			if n>>i&1 != 0 {
				l = append(l, file(p))
			}
		}
		if plainCheck(l) == api.OK {
			all = append(all, l)
		}
	}
	return all
}

// pool holds paths that are close to each other in all ways.
var pool = []string{"a", "a.b", "a/b", "a/b/c", "a/b.c", "a/c", "a0", "a0/b", "ab", "b", "b/a/c"}

// expectCheck fails unless Check answers just this.
func expectCheck(t *testing.T, l []api.File, want api.Errno) {
	t.Helper()
	if got := flat.Check(l); got != want {
		t.Errorf("Check of %d files %.9v = %d, want %d", len(l), l, got, want)
	}
}

// P18.1: each error, at the edges of its condition.
func TestCheck(t *testing.T) {
	expectCheck(t, nil, api.OK)
	expectCheck(t, []api.File{}, api.OK)
	expectCheck(t, files("a", "b"), api.OK)
	expectCheck(t, files("a.b", "a/b"), api.OK)
	expectCheck(t, files("a", "a"), api.ErrUnsorted)
	expectCheck(t, files("b", "a"), api.ErrUnsorted)
	expectCheck(t, files("a/b", "a"), api.ErrUnsorted)
	expectCheck(t, files("a/b", "a.b"), api.ErrUnsorted)
	expectCheck(t, files("a", "a/b"), api.ErrPathConflict)
	expectCheck(t, files("a", "a.b", "a/b"), api.ErrPathConflict)
	expectCheck(t, files("a/b", "a/b.c", "a/b/c/d"), api.ErrPathConflict)
	expectCheck(t, files("a", "a/b", "a"), api.ErrUnsorted)
	expectCheck(t, files("a", "a/b", "a/"), api.ErrBadPath)
	for _, p := range []string{"a", " ", "Z/z", deep(16, 1), deep(16, 15), deep(3, 64), deep(15, 15) + "/" + strings.Repeat("y", 15), "\xff"} {
		expectCheck(t, files(p), api.OK)
	}
	for _, p := range []string{"", "/", "/a", "a/", "a//b", ".", "..", "a/..", ".graft", "a/.graft/b", "a\n", "\x00", deep(17, 1), deep(1, 65), deep(16, 16)} {
		expectCheck(t, files(p), api.ErrBadPath)
		expectCheck(t, []api.File{{Path: p}}, api.ErrBadPath)
		expectCheck(t, files("z", p), api.ErrBadPath)
	}
	for _, mode := range []int{math.MinInt, -1, 0, 4, 5, 257, 1 << 32, math.MaxInt} {
		expectCheck(t, []api.File{{Path: "a", Mode: mode, Id: id(1)}}, api.ErrInvalid)
		expectCheck(t, append(files("b"), api.File{Path: "a", Mode: mode, Id: id(1)}), api.ErrInvalid)
	}
	for mode := 1; mode <= 3; mode++ {
		expectCheck(t, []api.File{{Path: "a", Mode: mode, Id: id(1)}}, api.OK)
		for _, wrong := range []string{"", "0", id(1)[1:], id(1) + "0", strings.ToUpper(id(1)), "g" + id(1)[1:], id(1)[1:] + "\x00"} {
			expectCheck(t, []api.File{{Path: "a", Mode: mode, Id: wrong}}, api.ErrInvalid)
			expectCheck(t, append(files("b"), api.File{Path: "a", Mode: mode, Id: wrong}), api.ErrInvalid)
		}
	}
}

// P18.1: all lists of a few files, against a plain reference.
func TestCheckPlain(t *testing.T) {
	some := files("a", "a.b", "a/b", "a/b/c", "b", "a//b")
	some = append(some, api.File{Path: "b", Mode: 4, Id: id(1)}, api.File{Path: "c", Mode: 1}, api.File{})
	lists := [][]api.File{nil}
	for start, size := 0, 0; size < 4; size++ {
		end := len(lists)
		for _, l := range lists[start:end] {
			for _, f := range some {
				lists = append(lists, append(slices.Clone(l), f))
			}
		}
		start = end
	}
	for _, l := range lists {
		expectCheck(t, l, plainCheck(l))
	}
}

// P18.1: the limit of files, which goes ahead of all other errors.
func TestCheckLimit(t *testing.T) {
	most := many(api.MaxFiles, "d")
	expectCheck(t, most, api.OK)
	for _, f := range []api.File{file("z"), file("a"), {}, most[0], file("d")} {
		expectCheck(t, append(slices.Clone(most), f), api.ErrTooLarge)
		expectCheck(t, append([]api.File{f}, most...), api.ErrTooLarge)
	}
	expectCheck(t, append([]api.File{file("d")}, most[1:]...), api.ErrPathConflict)
	expectCheck(t, append(slices.Clone(most[1:]), most[0]), api.ErrUnsorted)
	expectCheck(t, append(slices.Clone(most[1:]), file("")), api.ErrBadPath)
}

// P18.5: each file of a list is found at its path, and none elsewhere.
func TestFind(t *testing.T) {
	others := append([]string{"", "/", "a/", "/a", "a//b", "c", "A", "a\x00"}, pool...)
	for _, l := range validLists(pool) {
		for _, p := range others {
			var want api.File
			at := slices.IndexFunc(l, func(f api.File) bool { return f.Path == p })
			if at >= 0 {
				want = l[at]
			}
			if got, ok := flat.Find(l, p); got != want || ok != (at >= 0) {
				t.Errorf("Find(%v, %q) = %v, %t, want %v", l, p, got, ok, want)
			}
		}
	}
}

// P18.5: a list that isn't valid is searched, too; the first file at the path is found.
func TestFindAny(t *testing.T) {
	l := append(files("c", "b", "a", "", "b/x"), api.File{Path: "b", Mode: 9}, api.File{Path: "c"})
	for at, f := range l[:5] {
		if got, ok := flat.Find(l, f.Path); got != l[at] || !ok {
			t.Errorf("Find(%q) = %v, %t", f.Path, got, ok)
		}
	}
}

// plainPut follows P18.6.
func plainPut(l []api.File, f api.File) []api.File {
	out := []api.File{f}
	for _, g := range l {
		if g.Path != f.Path && !within(f.Path, g.Path) && !within(g.Path, f.Path) {
			out = append(out, g)
		}
	}
	slices.SortFunc(out, func(a, b api.File) int { return cmp.Compare(a.Path, b.Path) })
	return out
}

// P18.6, P18.12: any file put into any list.
func TestPut(t *testing.T) {
	for _, l := range validLists(pool) {
		for _, p := range append([]string{"a/b/c/d", "a/a", "A", "z", "a/b/b", "a.b/c"}, pool...) {
			f := api.File{Path: p, Mode: 2, Id: id(99)}
			got := flat.Put(l, f)
			if !slices.Equal(got, plainPut(l, f)) {
				t.Errorf("Put(%v, %v) = %v, want %v", l, f, got, plainPut(l, f))
			}
			if found, ok := flat.Find(got, p); found != f || !ok || flat.Check(got) != api.OK {
				t.Errorf("Find(%v, %q) = %v, %t", got, p, found, ok)
			}
		}
	}
	most := many(api.MaxFiles, "")
	if got := flat.Put(most, file("z")); len(got) != api.MaxFiles+1 || got[api.MaxFiles] != file("z") {
		t.Errorf("Put = %d files", len(got))
	}
}

// P18.7, P18.8, P18.12: any path dropped, and the files within any directory.
func TestDropUnder(t *testing.T) {
	for _, l := range validLists(pool) {
		for _, p := range append([]string{"", "a/b/c/d", "a/a", "A", "z", "a/", "/", "b/a"}, pool...) {
			var kept, in []api.File
			for _, f := range l {
				if p == "" || within(p, f.Path) {
					in = append(in, f)
				} else if f.Path != p {
					kept = append(kept, f)
				}
			}
			got := flat.Drop(l, p)
			if !slices.Equal(got, kept) {
				t.Errorf("Drop(%v, %q) = %v, want %v", l, p, got, kept)
			}
			if found, ok := flat.Find(got, p); found != (api.File{}) || ok {
				t.Errorf("Find(%v, %q) = %v", got, p, found)
			}
			if got := flat.Under(l, p); !slices.Equal(got, in) {
				t.Errorf("Under(%v, %q) = %v, want %v", l, p, got, in)
			}
		}
	}
}

// R3: lists stay as they are, their spare capacity too, and no answer shares memory with them.
func TestListsStay(t *testing.T) {
	spare := api.File{Path: "spare"}
	backing := append(files("a/b", "a/c", "b"), spare, spare)
	want := slices.Clone(backing)
	l := backing[:3]
	var answers [][]api.File
	for _, p := range []string{"", "a", "a/b", "a/d", "b", "c", "A"} {
		answers = append(answers, flat.Drop(l, p), flat.Under(l, p))
		if p != "" {
			answers = append(answers, flat.Put(l, file(p)))
		}
	}
	for _, a := range answers {
		clear(a[:cap(a)])
	}
	flat.Check(l)
	flat.Find(l, "b")
	flat.Write(api.Store{}, l)
	if !slices.Equal(backing, want) {
		t.Errorf("the list is %v now", backing)
	}
}

// R1: lists that aren't valid have no specified answers, but answers.
func TestAnyLists(t *testing.T) {
	for _, l := range [][]api.File{{{}}, {{}, {}}, files("b", "a", "a/b", "", "/", "a//b", "b/")} {
		for _, p := range []string{"", "/", "a", "a/", "//", "b"} {
			flat.Put(l, api.File{Path: p})
			flat.Drop(l, p)
			flat.Under(l, p)
		}
	}
}
