package tmerge_test

import (
	"slices"
	"strings"
	"testing"

	"graftage/api"
	"graftage/flat"
	"graftage/path"
	"graftage/store"
	"graftage/tmerge"
)

// The parts of names whose marked forms are too long for a name: with both marks, and with the longer one only.
var longName, longerName = strings.Repeat("n", 58), strings.Repeat("n", 60)

// anyPaths holds paths that come within each other, and into each other's way.
var anyPaths = []string{
	"a", "b", "c", "d", "e",
	"a/b", "a/c", "b/b", "b/c/d", "b/c/e", "c/a",
	"a~ours", "a~theirs", "a~ours/x", "a~theirs/y", "b~ours", "b~theirs", "b/c~ours", "b/c~theirs", "b/c",
	longName, longName + "/x", longName + "~ours", longerName, longerName + "/x",
}

// anyTexts returns texts many of which share lines with some others, to unlike extents.
func anyTexts() []string {
	var l []string
	for _, letters := range []string{"abcdefghij", "klmnopqrst", "ab", ""} {
		text := strings.Split(letters, "")
		for _, change := range [][]int{nil, {0}, {9}, {0, 9}, {4}, {4, 5}, {3, 4, 5, 6, 7}} {
			for _, by := range []string{"X", "Y"} {
				changed := slices.Clone(text)
				for _, at := range change {
					if at < len(changed) {
						changed[at] = by
					}
				}
				l = append(l, strings.Join(changed, "\n"), strings.Join(changed, "\n")+"\n")
			}
		}
	}
	slices.Sort(l)
	return append(slices.Compact(l), "a\x00b\n", "a\x00c\n", strings.Repeat("\n", api.MaxLines), strings.Repeat("\n", api.MaxLines)+"x", strings.Repeat("\n", api.MaxLines)+"y\n")
}

// world is what random lists are made of.
type world struct {
	next  func(n int) int
	ids   []string
	paths []string
	store api.Store
}

// newWorld returns a world of all texts; some of its IDs are those of no blob if holes is true.
func newWorld(seed uint64, holes bool, paths ...string) *world {
	b := &box{}
	var ids []string
	for _, text := range anyTexts() {
		ids = append(ids, b.blob(text))
	}
	if holes {
		ids = append(ids, strings.Repeat("0a", 20), b.put(api.Tree, "tree", ""))
	}
	return &world{next: draws(seed), ids: ids, paths: paths, store: b.store()}
}

// id returns any ID. Those of the first few texts are the most likely.
func (w *world) id() string {
	if w.next(3) == 0 {
		return w.ids[w.next(len(w.ids))]
	}
	return w.ids[w.next(12)]
}

// mode returns any mode. Regular files are the most likely.
func (w *world) mode() int {
	return []int{1, 1, 1, 1, 1, 1, 2, 2, 3}[w.next(9)]
}

// path returns any path.
func (w *world) path() string {
	return w.paths[w.next(len(w.paths))]
}

// base returns a list of at most n files.
func (w *world) base(n int) []api.File {
	var l []api.File
	for range w.next(n + 1) {
		l = flat.Put(l, api.File{Path: w.path(), Mode: w.mode(), Id: w.id()})
	}
	return l
}

// changed returns a list after some random changes.
func (w *world) changed(l []api.File) []api.File {
	out := slices.Clone(l)
	for range w.next(5) {
		if len(out) == 0 || w.next(4) == 0 {
			out = flat.Put(out, api.File{Path: w.path(), Mode: w.mode(), Id: w.id()})
			continue
		}
		f := out[w.next(len(out))]
		switch w.next(6) {
		case 0:
			out = flat.Drop(out, f.Path)
		case 1:
			f.Mode = w.mode()
			out = flat.Put(out, f)
		case 2:
			f.Id = w.id()
			out = flat.Put(out, f)
		default:
			out = flat.Drop(out, f.Path)
			f.Path = w.path()
			if w.next(2) == 0 {
				f.Id = w.id()
			}
			out = flat.Put(out, f)
		}
	}
	return out
}

// options returns any valid options.
func (w *world) options() api.MergeOptions {
	o := api.MergeOptions{Least: 1 + w.next(100), Side: max(0, w.next(7)-3), Ours: "ours", Theirs: "theirs", Style: 1 + w.next(2)}
	if w.next(2) == 0 {
		o.Least = 50
	}
	return o
}

// P21.1, P21.3, P21.8: random merges against a plain reference; the results are valid, and come from where they may.
func TestRandom(t *testing.T) {
	errors, kinds, others, lost := 0, make(map[int]int), 0, 0
	for seed := range 40 {
		w := newWorld(uint64(seed), seed%4 == 0, anyPaths[:len(anyPaths)*(seed%5+1)/5]...)
		for range 250 {
			base := w.base(6)
			ours, theirs := w.changed(base), w.changed(base)
			s, m, e := expectMerge(t, w.store, base, ours, theirs, w.options())
			if e != api.OK {
				errors++
				continue
			}
			if !isValid(m) || !tmerge.Valid(m) {
				t.Errorf("%v isn't valid", m)
			}
			if tmerge.Clean(m) != (len(m.Notes) == 0) {
				t.Errorf("Clean(%v) = %t", m, tmerge.Clean(m))
			}
			if len(store.Less(w.store, s).Items) > 0 || !store.Valid(s) {
				t.Error("the store has shrunk, or is no store any more")
			}
			for _, f := range m.Files {
				fromLists := slices.ContainsFunc(slices.Concat(base, ours, theirs), func(g api.File) bool { return g.Id == f.Id })
				if o, _ := store.Get(s, f.Id); !fromLists && o.Kind != api.Blob {
					t.Errorf("%v comes from nowhere", f)
				}
			}
			for _, c := range m.Notes {
				kinds[c.Kind]++
				if c.Other != "" {
					others++
				}
				if !slices.ContainsFunc(m.Files, func(f api.File) bool { return f.Path == c.Path }) {
					lost++
				}
			}
		}
	}
	for kind := api.ConflictContent; kind <= api.ConflictBinary; kind++ {
		if kinds[kind] < 20 {
			t.Errorf("conflict %d came %d times", kind, kinds[kind])
		}
	}
	if errors < 20 || others < 1000 || lost < 200 {
		t.Errorf("%d errors, %d other paths and %d records without a file came", errors, others, lost)
	}
}

// apart reports whether no path of two lists contains another one.
func apart(a, b []api.File) bool {
	for _, f := range slices.Concat(a, b) {
		for _, g := range slices.Concat(a, b) {
			if path.Within(f.Path, g.Path) {
				return false
			}
		}
	}
	return true
}

// P21.6: exchanging the sides exchanges the stages, and nothing else.
func TestSymmetry(t *testing.T) {
	clean, conflicts := 0, 0
	for seed := range 20 {
		w := newWorld(uint64(100+seed), false, anyPaths[:12+seed%12]...)
		for range 300 {
			base := w.base(6)
			ours, theirs := w.changed(base), w.changed(base)
			if !apart(ours, theirs) {
				continue
			}
			o := w.options()
			o.Side = api.SideNone
			_, m, e := tmerge.Merge(w.store, base, ours, theirs, o)
			_, back, code := tmerge.Merge(w.store, base, theirs, ours, o)
			if e != api.OK || code != api.OK {
				t.Fatalf("Merge(%v, %v, %v) = %d, %d", base, ours, theirs, e, code)
			}
			swapped := tmerge.Swap(back)
			if !slices.Equal(m.Notes, swapped.Notes) || !slices.Equal(m.Slots, swapped.Slots) {
				t.Errorf("Merge(%v, %v, %v) = %v, with the sides exchanged %v", base, ours, theirs, m, back)
			}
			if len(m.Notes) > 0 {
				conflicts++
				continue
			}
			clean++
			if !slices.Equal(m.Files, back.Files) {
				t.Errorf("Merge(%v, %v, %v) = %v, with the sides exchanged %v", base, ours, theirs, m.Files, back.Files)
			}
		}
	}
	if clean < 500 || conflicts < 500 {
		t.Errorf("%d clean merges and %d others came", clean, conflicts)
	}
}

// P21.7: where one side has changed nothing, or both have made the same of it, the result is the other one.
func TestOneSide(t *testing.T) {
	for seed := range 20 {
		w := newWorld(uint64(200+seed), false, anyPaths...)
		for range 100 {
			base := w.base(8)
			side := w.changed(base)
			for _, lists := range [][3][]api.File{{base, side, base}, {base, base, side}, {base, side, side}, {side, base, base}, {base, base, base}} {
				s, m, e := expectMerge(t, w.store, lists[0], lists[1], lists[2], w.options())
				want := lists[1]
				if slices.Equal(lists[0], lists[1]) {
					want = lists[2]
				}
				if !slices.Equal(m.Files, want) || len(m.Notes)+len(m.Slots) > 0 || e != api.OK || !slices.Equal(s.Items, w.store.Items) {
					t.Errorf("Merge(%v) = %v, %d", lists, m, e)
				}
			}
		}
	}
}
