package rename_test

import (
	"crypto/sha256"
	"encoding/hex"
	"fmt"
	"math"
	"slices"
	"strings"
	"testing"
	"time"

	"graftage/api"
	"graftage/change"
	"graftage/rename"
	"graftage/simil"
	"graftage/store"
)

// box is a store under construction, for files that are told apart by the numbers of their texts.
type box struct {
	items []api.Item
}

// put adds an object.
func (b *box) put(kind int, word, body string) string {
	sum := sha256.Sum256(fmt.Appendf(nil, "%s %d\x00%s", word, len(body), body))
	id := hex.EncodeToString(sum[:20])
	at, found := slices.BinarySearchFunc(b.items, id, func(x api.Item, id string) int { return strings.Compare(x.Id, id) })
	if !found {
		b.items = slices.Insert(b.items, at, api.Item{Id: id, Kind: kind, Body: body})
	}
	return id
}

// blob adds a blob.
func (b *box) blob(text string) string {
	return b.put(api.Blob, "blob", text)
}

// file adds a blob, and returns a regular file of it.
func (b *box) file(p, text string) api.File {
	return api.File{Path: p, Mode: api.ModeFile, Id: b.blob(text)}
}

// store returns the objects so far.
func (b *box) store() api.Store {
	return api.Store{Items: slices.Clone(b.items)}
}

// lines returns a text with one line for each letter.
func lines(letters string) string {
	return strings.Join(strings.Split(letters, ""), "\n") + "\n"
}

// better reports whether one pair of a deletion and an addition goes ahead of another one.
func better(a, b [2]api.File, scoreA, scoreB int) bool {
	namedA, namedB := name(a[0].Path) == name(a[1].Path), name(b[0].Path) == name(b[1].Path)
	switch {
	case scoreA != scoreB:
		return scoreA > scoreB
	case namedA != namedB:
		return namedA
	case a[0].Path != b[0].Path:
		return a[0].Path < b[0].Path
	}
	return a[1].Path < b[1].Path
}

// plainFind looks for the best pair of all, time and again.
func plainFind(s api.Store, l []api.Change, least int) ([]api.Change, api.Errno) {
	least = max(1, min(100, least))
	out := plainExact(l)
	var olds, news []api.File
	for _, c := range out {
		if c.Kind == api.ChangeDeleted && c.Old.Mode != api.ModeLink {
			olds = append(olds, c.Old)
		}
		if c.Kind == api.ChangeAdded && c.New.Mode != api.ModeLink {
			news = append(news, c.New)
		}
	}
	if len(olds) == 0 || len(news) == 0 {
		return out, api.OK
	}
	texts := make(map[api.File]string)
	for _, f := range slices.Concat(olds, news) {
		o, e := store.Get(s, f.Id)
		if e != api.OK {
			return nil, api.ErrMissingObject
		}
		if o.Kind != api.Blob {
			return nil, api.ErrKind
		}
		texts[f] = o.Body
	}
	for {
		var best [2]api.File
		bestScore := 0
		for _, f := range olds {
			for _, g := range news {
				score := simil.Score(texts[f], texts[g])
				if score >= least && (bestScore == 0 || better([2]api.File{f, g}, best, score, bestScore)) {
					best, bestScore = [2]api.File{f, g}, score
				}
			}
		}
		if bestScore == 0 {
			return out, api.OK
		}
		out = paired(out, slices.Index(out, deleted(best[0])), slices.Index(out, added(best[1])), bestScore)
		olds, news = without(olds, slices.Index(olds, best[0])), without(news, slices.Index(news, best[1]))
	}
}

// expectFind fails unless Find answers just this.
func expectFind(t *testing.T, s api.Store, l []api.Change, least int, want []api.Change, code api.Errno) {
	t.Helper()
	if got, e := rename.Find(s, l, least); !slices.Equal(got, want) || e != code {
		t.Errorf("Find(%v, %d) = %v, %d, want %v, %d", l, least, got, e, want, code)
	}
}

// P20.2: the score, the threshold at its edges, and what goes ahead of what.
func TestFindExamples(t *testing.T) {
	b := &box{}
	text := lines("abcdefghij")
	half, most, all, none := lines("abcdeABCDE"), lines("abcdefghiJ"), lines("jihgfedcba"), lines("ABCDEFGHIJ")
	old := b.file("d/x", text)
	for _, c := range []struct {
		text         string
		score, least int
		found        bool
	}{
		{half, 50, 50, true}, {half, 50, 51, false}, {half, 50, 49, true}, {half, 50, 1, true}, {half, 50, 0, true}, {half, 50, math.MinInt, true}, {half, 50, 100, false}, {half, 50, math.MaxInt, false},
		{most, 90, 90, true}, {most, 90, 91, false},
		{all, 100, 100, true}, {all, 100, 101, true}, {all, 100, math.MaxInt, true},
		{none, 0, 1, false}, {none, 0, 0, false}, {none, 0, math.MinInt, false},
		{"", 0, 0, false}, {"a\n", 10, 10, true}, {"a\n", 10, 11, false}, {strings.Repeat("a\n", 20), 5, 5, true}, {strings.Repeat("a\n", 20), 5, 6, false},
	} {
		new := b.file("y", c.text)
		l, inverse := sorted(deleted(old), added(new)), sorted(deleted(new), added(old))
		want, back := l, inverse
		if c.found {
			want, back = sorted(renamed(old, new, c.score)), sorted(renamed(new, old, c.score))
		}
		expectFind(t, b.store(), l, c.least, want, api.OK)
		expectFind(t, b.store(), inverse, c.least, back, api.OK)
	}
}

// P20.2: which of several pairs is chosen.
func TestFindChoice(t *testing.T) {
	b := &box{}
	text := lines("abcdefghij")
	lower, higher := lines("abcdefGHIJ"), lines("abcdefgHIJ")
	files := func(text string, paths ...string) []api.File {
		var l []api.File
		for _, p := range paths {
			l = append(l, b.file(p, text))
		}
		return l
	}
	expect := func(olds, news []api.File, want ...api.Change) {
		t.Helper()
		var l []api.Change
		for _, f := range olds {
			l = append(l, deleted(f))
		}
		for _, f := range news {
			l = append(l, added(f))
		}
		expectFind(t, b.store(), sorted(l...), 50, sorted(want...), api.OK)
	}
	// The higher score goes ahead of equal names, and of smaller paths.
	olds := slices.Concat(files(lower, "a", "d/x"), files(higher, "z"))
	expect(olds, files(text, "x"), deleted(olds[0]), deleted(olds[1]), renamed(olds[2], files(text, "x")[0], 70))
	news := slices.Concat(files(lower, "a", "d/x"), files(higher, "z"))
	expect(files(text, "x"), news, added(news[0]), added(news[1]), renamed(files(text, "x")[0], news[2], 70))
	// Equal names go ahead of smaller paths.
	olds = files(lower, "a", "d/x", "e/x")
	expect(olds, files(text, "x"), deleted(olds[0]), renamed(olds[1], files(text, "x")[0], 60), deleted(olds[2]))
	news = files(lower, "a", "d/x", "e/x")
	expect(files(text, "x"), news, added(news[0]), renamed(files(text, "x")[0], news[1], 60), added(news[2]))
	// The smaller old path goes ahead of the smaller new path.
	olds, news = files(lower, "b", "c"), files(text, "d", "e")
	expect(olds, news, renamed(olds[0], news[0], 60), renamed(olds[1], news[1], 60))
	olds, news = files(lower, "d", "e"), files(text, "b", "c")
	expect(olds, news, renamed(olds[0], news[0], 60), renamed(olds[1], news[1], 60))
	// Each file is used once, also if a worse pair is left.
	olds, news = slices.Concat(files(text, "a"), files(lower, "b")), slices.Concat(files(higher, "c"), files(lines("abcdefghiJ"), "d"))
	expect(olds, news, renamed(olds[0], news[1], 90), renamed(olds[1], news[0], 90))
	// An exact rename goes ahead of all others.
	olds, news = files(text, "a", "b"), slices.Concat(files(text, "c"), files(higher, "d/b"))
	expect(olds, news, renamed(olds[0], news[0], 100), renamed(olds[1], news[1], 70))
}

// P20.2: symbolic links take no part, nor do modifications and renames.
func TestFindLinks(t *testing.T) {
	b := &box{}
	old, new := b.file("a", lines("abcd")), b.file("b", lines("abce"))
	oldLink, newLink := old, new
	oldLink.Mode, newLink.Mode = api.ModeLink, api.ModeLink
	exec := new
	exec.Mode = api.ModeExec
	s := b.store()
	for _, l := range [][]api.Change{
		sorted(deleted(oldLink), added(newLink)),
		sorted(deleted(oldLink), added(new)),
		sorted(deleted(old), added(newLink)),
		sorted(modified(old, b.file("a", "")), added(new)),
		sorted(deleted(old), modified(b.file("b", ""), new)),
		sorted(deleted(old), renamed(b.file("c", ""), new, 30)),
	} {
		expectFind(t, s, l, 1, l, api.OK)
		expectFind(t, api.Store{}, l, 1, l, api.OK)
	}
	expectFind(t, s, sorted(deleted(old), added(exec)), 1, sorted(renamed(old, exec, 75)), api.OK)
	expectFind(t, s, sorted(deleted(exec), added(old)), 1, sorted(renamed(exec, old, 75)), api.OK)
}

// P20.2: a blob that is missing, or is none, is told of if there are files left on both sides, of the deleted files first.
func TestFindErrors(t *testing.T) {
	b := &box{}
	blob, other := b.blob("x\n"), b.blob("y\n")
	tree := b.put(api.Tree, "tree", "")
	s := b.store()
	at := func(p, id string) api.File { return api.File{Path: p, Mode: api.ModeFile, Id: id} }
	for _, x := range []struct {
		l    []api.Change
		want api.Errno
	}{
		{sorted(deleted(at("a", id(1))), added(at("b", blob))), api.ErrMissingObject},
		{sorted(deleted(at("a", blob)), added(at("b", id(1)))), api.ErrMissingObject},
		{sorted(deleted(at("a", tree)), added(at("b", blob))), api.ErrKind},
		{sorted(deleted(at("a", blob)), added(at("b", tree))), api.ErrKind},
		{sorted(deleted(at("b", tree)), added(at("a", id(1)))), api.ErrKind},
		{sorted(deleted(at("b", id(1))), added(at("a", tree))), api.ErrMissingObject},
		{sorted(deleted(at("b", tree)), deleted(at("c", id(1))), added(at("a", blob))), api.ErrKind},
		{sorted(deleted(at("b", id(1))), deleted(at("c", tree)), added(at("a", blob))), api.ErrMissingObject},
		{sorted(deleted(at("a", blob)), added(at("b", tree)), added(at("c", id(1)))), api.ErrKind},
		{sorted(deleted(at("a", blob)), added(at("b", id(1))), added(at("c", tree))), api.ErrMissingObject},
		{sorted(deleted(at("a", id(1))), added(at("b", id(1))), deleted(at("c", id(2))), added(at("d", other))), api.ErrMissingObject},
	} {
		for _, least := range []int{0, 1, 100} {
			expectFind(t, s, x.l, least, nil, x.want)
		}
	}
	for _, l := range [][]api.Change{
		sorted(deleted(at("a", id(1))), deleted(at("b", tree))),
		sorted(added(at("a", id(1))), added(at("b", tree))),
		sorted(deleted(at("a", id(1))), modified(at("b", tree), at("b", id(2)))),
		sorted(deleted(at("a", id(1))), added(link("b", 2))),
		sorted(deleted(link("a", 1)), added(at("b", tree))),
		sorted(deleted(link("a", 1)), added(link("b", 2)), deleted(at("c", blob)), added(at("d", other))),
	} {
		expectFind(t, s, l, 1, l, api.OK)
	}
	expectFind(t, s, sorted(deleted(at("a", id(1))), added(at("b", id(1))), deleted(at("c", tree))), 1, sorted(renamed(at("a", id(1)), at("b", id(1)), 100), deleted(at("c", tree))), api.OK)
}

// texts returns texts that share lines with each other to unlike extents.
func texts(next func(n int) int, n int) []string {
	all := []string{"", "a", "\n\n\n"}
	for len(all) < n {
		var letters []byte
		for range 1 + next(8) {
			letters = append(letters, "aaabbcde"[next(8)])
		}
		all = append(all, lines(string(letters)))
	}
	return all
}

// onlyRenames returns the renames out of some changes.
func onlyRenames(l []api.Change) []api.Change {
	return slices.DeleteFunc(slices.Clone(l), func(c api.Change) bool { return c.Kind != api.ChangeRenamed })
}

// P20.2, P20.7: random changes at all thresholds, against a plain reference; each rename is found at all lower ones, too.
func TestFind(t *testing.T) {
	next := draws(19)
	errors, inexact := 0, 0
	for n := range 4000 {
		b := &box{}
		var ids []string
		for _, text := range texts(next, 4+n%12) {
			ids = append(ids, b.blob(text))
		}
		s := b.store()
		if n%5 == 0 {
			ids = append(ids, id(1), b.put(api.Tree, "tree", ""))
			s = b.store()
		}
		real := map[string]string{"": ""}
		for k := range ids {
			real[id(k)] = ids[k]
		}
		l := anyChanges(next, len(ids))
		for i := range l {
			l[i].Old.Id, l[i].New.Id = real[l[i].Old.Id], real[l[i].New.Id]
		}
		var stricter []api.Change
		for _, least := range []int{math.MaxInt, 101, 100, 99, 80, 67, 66, 50, 34, 33, 20, 2, 1, 0, -1, math.MinInt} {
			want, code := plainFind(s, l, least)
			expectFind(t, s, l, least, want, code)
			if code != api.OK {
				errors++
				continue
			}
			for _, c := range slices.Concat(stricter, onlyRenames(rename.Exact(l))) {
				if !slices.Contains(want, c) {
					t.Errorf("Find(%v, %d) = %v, without %v", l, least, want, c)
				}
			}
			stricter = onlyRenames(want)
			inexact += len(stricter) - len(onlyRenames(rename.Exact(l)))
			if rename.HasDuplicates(want) {
				t.Errorf("a path occurs twice in %v", want)
			}
			same(t, "Split of Find", l, rename.Split(want), rename.Split(l))
		}
	}
	if errors < 1000 || inexact < 5000 {
		t.Errorf("%d errors and %d renames came", errors, inexact)
	}
}

// P20.7: changes with inexact renames lead to the same files.
func TestFindApply(t *testing.T) {
	next := draws(23)
	for n := range 3000 {
		b := &box{}
		all := texts(next, 4+n%12)
		list := func() []api.File {
			l := anyList(next, len(all))
			for i := range l {
				l[i].Id = b.blob(all[next(len(all))])
			}
			return l
		}
		x, y := list(), list()
		l := change.Of(x, y)
		found, e := rename.Find(b.store(), l, 1+next(100))
		if e != api.OK {
			t.Fatalf("Find(%v) = %d", l, e)
		}
		if got, e := change.Apply(x, found); !slices.Equal(got, y) || e != api.OK {
			t.Errorf("Apply(%v, %v) = %v, %d", x, found, got, e)
		}
		same(t, "Split of Find", l, rename.Split(found), l)
	}
}

// P20.2, R1: as many files as a list may have, and long texts, in good time.
func TestFindMany(t *testing.T) {
	start := time.Now()
	b := &box{}
	var l, want []api.Change
	for i := range 2000 {
		var text strings.Builder
		for k := range 20 {
			fmt.Fprintf(&text, "line %d of file %d\n", k, i)
		}
		old, new := b.file("a/"+id(i)[:4], text.String()+"old\n"), b.file("b/"+id(2000 - i)[:4], text.String()+"new\n")
		l = append(l, deleted(old), added(new))
		want = append(want, renamed(old, new, simil.Score(text.String()+"old\n", text.String()+"new\n")))
	}
	expectFind(t, b.store(), sorted(l...), 60, sorted(want...), api.OK)
	l = nil
	for i := range 1500 { // what they share isn't much of the longer ones
		blank := strings.Repeat("\n", 1000)
		l = append(l, deleted(b.file("a/"+id(i)[:4], blank+id(i)+"\n")), added(b.file("b/"+id(i)[:4], blank+strings.Repeat(id(i), 30)+"\n")))
	}
	expectFind(t, b.store(), sorted(l...), 60, sorted(l...), api.OK)
	l = change.Invert(sorted(l...))
	expectFind(t, b.store(), l, 60, l, api.OK)
	blank := strings.Repeat("\n", api.MaxBytes)
	old, new := b.file("a", blank), b.file("b", blank[:api.MaxBytes/2])
	expectFind(t, b.store(), sorted(deleted(old), added(new)), 50, sorted(renamed(old, new, 50)), api.OK)
	expectFind(t, b.store(), sorted(deleted(old), added(new)), 51, sorted(deleted(old), added(new)), api.OK)
	if d := time.Since(start); d > 20*time.Second {
		t.Errorf("it took %s", d)
	}
}
