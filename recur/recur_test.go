package recur_test

import (
	"crypto/sha256"
	"encoding/hex"
	"fmt"
	"maps"
	"math"
	"slices"
	"strings"
	"testing"
	"time"

	"graftage/api"
	"graftage/flat"
	"graftage/recur"
	"graftage/tmerge"
	"graftage/walk"
)

// past holds objects, and the parents of the commits among them.
type past struct {
	items   map[string]api.Item
	parents map[string][]string
	count   int
}

// newPast returns an empty past.
func newPast() *past {
	return &past{items: make(map[string]api.Item), parents: make(map[string][]string)}
}

// add adds an object.
func (p *past) add(kind int, word, body string) string {
	sum := sha256.Sum256(fmt.Appendf(nil, "%s %d\x00%s", word, len(body), body))
	id := hex.EncodeToString(sum[:20])
	p.items[id] = api.Item{Id: id, Kind: kind, Body: body}
	return id
}

// blob adds a blob.
func (p *past) blob(text string) string { return p.add(api.Blob, "blob", text) }

// texts are files by their names.
type texts map[string]string

// tree adds a tree of ordinary files, with their blobs.
func (p *past) tree(files texts) string {
	body := ""
	for _, name := range slices.Sorted(maps.Keys(files)) {
		raw, _ := hex.DecodeString(p.blob(files[name]))
		body += "100644 " + name + "\x00" + string(raw)
	}
	return p.add(api.Tree, "tree", body)
}

// on adds a commit of a tree, which no other commit equals.
func (p *past) on(tree string, parents ...string) string {
	p.count++
	body := "tree " + tree + "\n"
	for _, id := range parents {
		body += "parent " + id + "\n"
	}
	body += fmt.Sprintf("author a <a@b> 5 +0000\ncommitter a <a@b> %d -0130\n\n%d\n", p.count*7%50, p.count)
	id := p.add(api.Commits, "commit", body)
	p.parents[id] = slices.Clone(parents)
	return id
}

// commit adds a commit with its files.
func (p *past) commit(files texts, parents ...string) string {
	return p.on(p.tree(files), parents...)
}

// without removes an object.
func (p *past) without(id string) { delete(p.items, id) }

// view returns the view of all objects with some commits cut off. Refs bear on nothing.
func (p *past) view(cuts ...string) api.View {
	items := slices.Collect(maps.Values(p.items))
	slices.SortFunc(items, func(a, b api.Item) int { return strings.Compare(a.Id, b.Id) })
	return api.View{Store: api.Store{Items: items}, Refs: []api.Ref{{Name: "HEAD", Id: "x"}}, Cuts: slices.Clone(cuts)}
}

// options are ordinary ones.
func options() api.MergeOptions {
	return api.MergeOptions{Least: 50, Ours: "main", Theirs: "topic", Style: 1}
}

// best returns the best merge bases of a set of commits and a commit, by the letter.
func best(v api.View, set []string, c string) []string {
	of, _ := walk.All(v, set)
	common, _ := walk.All(v, []string{c})
	common = slices.DeleteFunc(common, func(id string) bool { return !slices.Contains(of, id) })
	var out []string
	for _, x := range common {
		if !slices.ContainsFunc(common, func(y string) bool {
			older, _ := walk.IsAncestor(v, x, y)
			return x != y && older
		}) {
			out = append(out, x)
		}
	}
	return out
}

// walked returns the error of walk for a, then for b.
func walked(v api.View, a, b string) api.Errno {
	if _, e := walk.All(v, []string{a}); e != api.OK {
		return e
	}
	_, e := walk.All(v, []string{b})
	return e
}

// deep returns the depth of a set of commits and a commit, by the letter.
func deep(v api.View, set []string, c string) int {
	l := best(v, set, c)
	n := 0
	for i := 1; i < len(l); i++ {
		n = max(n, 1+deep(v, l[:i], l[i]))
	}
	return n
}

// fold returns the base files of a set of commits and a commit, by the letter.
func fold(v api.View, set []string, c string, o api.MergeOptions) (api.View, []api.File, api.Errno) {
	l := best(v, set, c)
	if len(l) == 0 {
		return v, nil, api.OK
	}
	out, e := flat.Of(v.Store, l[0])
	for i := 1; i < len(l) && e == api.OK; i++ {
		theirs, f := flat.Of(v.Store, l[i])
		if f != api.OK {
			return v, nil, f
		}
		w, old, f := fold(v, l[:i], l[i], o)
		if f != api.OK {
			return v, nil, f
		}
		v = w
		o.Ours, o.Theirs = "first", "second"
		s, m, f := tmerge.Merge(v.Store, old, out, theirs, o)
		v.Store, out, e = s, m.Files, f
	}
	return v, out, e
}

// plainBase is Base by the letter.
func plainBase(v api.View, a, b string, o api.MergeOptions) (api.Store, []api.File, api.Errno) {
	e := walked(v, a, b)
	if e == api.OK && deep(v, []string{a}, b) > api.MaxVirtual {
		e = api.ErrTooLarge
	}
	if e != api.OK {
		return api.Store{}, nil, e
	}
	w, l, e := fold(v, []string{a}, b, o)
	if e != api.OK {
		return api.Store{}, nil, e
	}
	return w.Store, l, api.OK
}

// plainMerge is Merge by the letter.
func plainMerge(v api.View, a, b string, o api.MergeOptions) (api.Store, api.Merged, api.Errno) {
	s, l, e := plainBase(v, a, b, o)
	if e != api.OK {
		return api.Store{}, api.Merged{}, e
	}
	ours, e := flat.Of(s, a)
	if e != api.OK {
		return api.Store{}, api.Merged{}, e
	}
	theirs, e := flat.Of(s, b)
	if e != api.OK {
		return api.Store{}, api.Merged{}, e
	}
	return tmerge.Merge(s, l, ours, theirs, o)
}

// sameMerged tells equal results.
func sameMerged(a, b api.Merged) bool {
	return slices.Equal(a.Files, b.Files) && slices.Equal(a.Slots, b.Slots) && slices.Equal(a.Notes, b.Notes)
}

// expect fails unless all calls answer for two commits as the plain references do.
func expect(t *testing.T, v api.View, a, b string, o api.MergeOptions) {
	t.Helper()
	s, l, e := recur.Base(v, a, b, o)
	s1, l1, e1 := plainBase(v, a, b, o)
	if !slices.Equal(s.Items, s1.Items) || !slices.Equal(l, l1) || e != e1 {
		t.Errorf("Base(%q, %q, %v) = %d objects, %v, %d, want %d objects, %v, %d", a, b, o, len(s.Items), l, e, len(s1.Items), l1, e1)
	}
	s, m, e := recur.Merge(v, a, b, o)
	s1, m1, e1 := plainMerge(v, a, b, o)
	if !slices.Equal(s.Items, s1.Items) || !sameMerged(m, m1) || e != e1 {
		t.Errorf("Merge(%q, %q, %v) = %d objects, %v, %d, want %d objects, %v, %d", a, b, o, len(s.Items), m, e, len(s1.Items), m1, e1)
	}
	code, depth, already := walked(v, a, b), 0, 0
	if code == api.OK {
		depth = deep(v, []string{a}, b)
		if old, _ := walk.IsAncestor(v, a, b); old {
			already = 2
		}
		if old, _ := walk.IsAncestor(v, b, a); old {
			already = 1
		}
	}
	if n, e := recur.Depth(v, a, b); n != depth || e != code {
		t.Errorf("Depth(%q, %q) = %d, %d, want %d, %d", a, b, n, e, depth, code)
	}
	if n, e := recur.Already(v, a, b); n != already || e != code {
		t.Errorf("Already(%q, %q) = %d, %d, want %d, %d", a, b, n, e, already, code)
	}
}

// body returns the text of the file at a path.
func body(s api.Store, l []api.File, path string) string {
	for _, f := range l {
		for _, x := range s.Items {
			if f.Path == path && x.Id == f.Id {
				return x.Body
			}
		}
	}
	return "?"
}

// cross adds two commits that both have both of the given commits as parents.
func (p *past) cross(files texts, x, y string) (string, string) {
	return p.commit(files, x, y), p.commit(files, y, x)
}

// P24.1, P24.3: the example. The bases are merged in the order of their IDs.
func TestExample(t *testing.T) {
	for n := range 8 { // with unlike IDs
		p := newPast()
		p.count = n
		root := p.commit(texts{"f": "1\n2\n3\n", "g": "g\n"})
		x := p.commit(texts{"f": "x\n2\n3\n", "g": "x\n"}, root)
		y := p.commit(texts{"f": "1\n2\ny\n", "g": "y\n"}, root)
		a, b := p.cross(texts{"f": "x\n2\ny\n", "g": "z\n"}, x, y)
		v := p.view()
		if n, e := recur.Depth(v, a, b); n != 1 || e != api.OK {
			t.Errorf("Depth = %d, %d", n, e)
		}
		first, second := "x\n", "y\n"
		if y < x {
			first, second = second, first
		}
		for _, side := range []int{api.SideNone, api.SideOurs, api.SideTheirs, api.SideUnion} {
			for style := 1; style <= 2; style++ {
				o := api.MergeOptions{Least: 50, Side: side, Ours: "main", Theirs: "topic", Style: style}
				s, l, e := recur.Base(v, a, b, o)
				want := "<<<<<<< first\n" + first + "=======\n" + second + ">>>>>>> second\n"
				if style == 2 {
					want = "<<<<<<< first\n" + first + "|||||||\ng\n=======\n" + second + ">>>>>>> second\n"
				}
				switch side {
				case api.SideOurs:
					want = first
				case api.SideTheirs:
					want = second
				case api.SideUnion:
					want = first + second
				}
				if len(l) != 2 || body(s, l, "f") != "x\n2\ny\n" || body(s, l, "g") != want || e != api.OK {
					t.Errorf("Base = %v, %q, %q, %d, want %q", l, body(s, l, "f"), body(s, l, "g"), e, want)
				}
				expect(t, v, a, b, o)
				expect(t, v, b, a, o)
			}
		}
		// Both have resolved it alike: that's no conflict.
		s, m, e := recur.Merge(v, a, b, options())
		if len(m.Notes) != 0 || len(m.Slots) != 0 || body(s, m.Files, "g") != "z\n" || e != api.OK {
			t.Errorf("Merge = %v, %d", m, e)
		}
	}
}

// P24.1, P24.2: what the sides don't settle tells with their own labels, over the text of the virtual base.
func TestConflict(t *testing.T) {
	p := newPast()
	root := p.commit(texts{"g": "g\n"})
	x, y := p.commit(texts{"g": "x\n"}, root), p.commit(texts{"g": "y\n"}, root)
	a, b := p.commit(texts{"g": "a\n"}, x, y), p.commit(texts{"g": "b\n"}, y, x)
	first, second := "x\n", "y\n"
	if y < x {
		first, second = second, first
	}
	o := options()
	o.Style = 2
	s, m, e := recur.Merge(p.view(), a, b, o)
	inner := "<<<<<<< first\n" + first + "|||||||\ng\n=======\n" + second + ">>>>>>> second\n"
	want := "<<<<<<< main\na\n|||||||\n" + inner + "=======\nb\n>>>>>>> topic\n"
	if body(s, m.Files, "g") != want || len(m.Notes) != 1 || m.Notes[0] != (api.Conflict{Kind: api.ConflictContent, Path: "g"}) || e != api.OK {
		t.Errorf("Merge = %q, %v, %d, want %q", body(s, m.Files, "g"), m, e, want)
	}
	if body(s, []api.File{{Path: "g", Id: m.Slots[0].Id}}, "g") != inner {
		t.Errorf("Merge = %v", m.Slots)
	}
}

// P24.1, P24.3: the third base is merged over what it has in common with either of the two ahead of it.
func TestThree(t *testing.T) {
	for n := range 24 {
		p := newPast()
		p.count = n
		r, q := p.commit(texts{"f": "r\n", "g": "g\n"}), p.commit(texts{"h": "h\n"})
		x := p.commit(texts{"f": "x\n", "g": "g\n"}, r)
		y := p.commit(texts{"h": "y\n"}, q)
		z := p.commit(texts{"f": "z\n", "g": "z\n", "h": "z\n"}, r, q)
		a, b := p.commit(nil, x, y, z), p.commit(texts{"f": "b\n"}, z, y, x)
		v := p.view()
		// If z comes last, it has two bases, r and q, which have none themselves; otherwise only the last one has one base.
		want := 1
		if z == max(x, y, z) {
			want = 2
		}
		if n, e := recur.Depth(v, a, b); n != want || e != api.OK {
			t.Errorf("Depth = %d, %d, want %d", n, e, want)
		}
		for _, side := range []int{api.SideNone, api.SideTheirs} {
			o := options()
			o.Side = side
			expect(t, v, a, b, o)
			expect(t, v, b, a, o)
		}
	}
}

// ladder returns two commits with that many levels of two commits each below them, and a common root.
func (p *past) ladder(levels int) (string, string) {
	root := p.commit(texts{"f": "f\n"})
	x, y := p.commit(texts{"f": "x\n"}, root), p.commit(texts{"f": "y\n"}, root)
	for n := range levels {
		x, y = p.cross(texts{"f": fmt.Sprintf("%d\n", n)}, x, y)
	}
	return x, y
}

// P24.1 to P24.3: up to MaxVirtual levels of virtual bases are merged.
func TestDepth(t *testing.T) {
	for levels := range 13 {
		p := newPast()
		a, b := p.ladder(levels)
		v := p.view()
		if n, e := recur.Depth(v, a, b); n != levels || e != api.OK {
			t.Errorf("Depth = %d, %d, want %d", n, e, levels)
		}
		want := api.OK
		if levels > api.MaxVirtual {
			want = api.ErrTooLarge
		}
		_, l, e := recur.Base(v, a, b, options())
		if e != want || (len(l) == 1) != (e == api.OK) {
			t.Errorf("Base of %d levels = %v, %d, want %d", levels, l, e, want)
		}
		s, m, e := recur.Merge(v, a, b, options())
		if e != want || (len(m.Files) == 1) != (e == api.OK) || (len(s.Items) > 0) != (e == api.OK) {
			t.Errorf("Merge of %d levels = %v, %d, want %d", levels, m, e, want)
		}
		expect(t, v, a, b, options())
		// The depth goes ahead of what is wrong with the options or the trees.
		p.without(p.tree(texts{"f": "f\n"}))
		expect(t, p.view(), a, b, api.MergeOptions{})
		expect(t, p.view(a), a, b, options())
	}
}

// P24.4: which of two commits has the other one.
func TestAlready(t *testing.T) {
	p := newPast()
	root := p.commit(nil)
	x, y := p.commit(nil, root), p.commit(nil, root)
	a, b := p.cross(nil, x, y)
	stray := p.commit(nil)
	for _, c := range []struct {
		a, b string
		want int
	}{{root, root, 1}, {x, root, 1}, {root, x, 2}, {x, y, 0}, {a, y, 1}, {x, b, 2}, {a, root, 1}, {root, b, 2}, {a, b, 0}, {stray, a, 0}, {b, b, 1}} {
		if n, e := recur.Already(p.view(), c.a, c.b); n != c.want || e != api.OK {
			t.Errorf("Already = %d, %d, want %d", n, e, c.want)
		}
	}
	if n, e := recur.Already(p.view(a), a, x); n != 0 || e != api.OK {
		t.Errorf("Already = %d, %d", n, e)
	}
}

// P24.1 to P24.4: errors of walk, for a and then for b, go ahead of all others.
func TestWalkErrors(t *testing.T) {
	p := newPast()
	missing, blob, root := strings.Repeat("0a", 20), p.blob("x"), p.commit(nil)
	m, k := p.commit(nil, missing), p.commit(nil, blob)
	mk, km := p.commit(nil, root, m, k), p.commit(nil, k, m)
	tag := p.add(api.Tags, "tag", "object "+root+"\ntype commit\ntag v\ntagger a <a@b> 5 +0000\n\n")
	l := []string{missing, blob, root, m, k, mk, km, tag, "", p.tree(nil)}
	for _, cuts := range [][]string{nil, {m}, {k}, {mk, km}, {missing, blob, tag}} {
		for _, a := range l {
			for _, b := range l {
				expect(t, p.view(cuts...), a, b, options())
				expect(t, p.view(cuts...), a, b, api.MergeOptions{})
			}
		}
	}
	for _, x := range []struct {
		a, b string
		want api.Errno
	}{{m, k, api.ErrMissingObject}, {k, m, api.ErrKind}, {root, km, api.ErrKind}, {mk, root, api.ErrMissingObject}, {root, tag, api.ErrKind}} {
		s, l, e := recur.Base(p.view(), x.a, x.b, options())
		if len(s.Items) != 0 || l != nil || e != x.want {
			t.Errorf("Base = %v, %v, %d, want %d", s, l, e, x.want)
		}
		if n, e := recur.Depth(p.view(), x.a, x.b); n != 0 || e != x.want {
			t.Errorf("Depth = %d, %d, want %d", n, e, x.want)
		}
		if n, e := recur.Already(p.view(), x.a, x.b); n != 0 || e != x.want {
			t.Errorf("Already = %d, %d, want %d", n, e, x.want)
		}
	}
}

// P24.1, P24.2: what is wrong with files and options is told in the order of the calls.
func TestCallErrors(t *testing.T) {
	bad := "tree with a wrong mode"
	for shape := range 1 << 12 {
		if shape%5 != 0 && shape&(shape-1) != 0 {
			continue
		}
		p := newPast()
		trees := make([]string, 6)
		for i := range trees {
			n := i
			if i == 5 {
				n = 4 // a and b have files alike
			}
			trees[i] = p.tree(texts{"f": fmt.Sprintf("%d\n", n), "g": "g\n"})
			switch shape >> (2 * i) & 3 {
			case 1: // a tree that isn't there
				trees[i] = fmt.Sprintf("%040d", i)
			case 2: // no tree
				trees[i] = p.blob(bad)
			case 3: // files of which there is no content
				trees[i] = p.tree(texts{"f": fmt.Sprintf("lost %d\n", n), "h": "g\n"})
				p.without(p.blob(fmt.Sprintf("lost %d\n", n)))
			}
		}
		root, other := p.on(trees[0]), p.on(trees[1])
		x, y := p.on(trees[2], root, other), p.on(trees[3], other, root)
		a, b := p.on(trees[4], x, y), p.on(trees[5], y, x)
		v := p.view()
		for _, o := range []api.MergeOptions{options(), {Least: 50, Style: 1, Ours: "\n"}, {Least: 101, Style: 1, Ours: "a", Theirs: "b"}, {Least: 100, Side: 2, Style: 2, Ours: "", Theirs: "b"}} {
			expect(t, v, a, b, o)
			expect(t, v, x, y, o)
			expect(t, v, x, root, o)
		}
	}
}

// P24.1: labels don't bear on the base, and options not at all where there is at most one.
func TestOptions(t *testing.T) {
	p := newPast()
	a, b := p.ladder(2)
	x, y := p.parents[a][0], p.commit(texts{"f": "y\n"}, p.parents[a][0])
	v := p.view()
	want, files, e := recur.Base(v, a, b, options())
	for _, labels := range []string{"", "\n", "first", strings.Repeat("x", api.MaxName+1)} {
		o := options()
		o.Ours, o.Theirs = labels, labels
		s, l, f := recur.Base(v, a, b, o)
		if !slices.Equal(s.Items, want.Items) || !slices.Equal(l, files) || e != api.OK || f != api.OK {
			t.Errorf("Base with labels %q = %v, %d, want %v, %d", labels, l, f, files, e)
		}
	}
	if _, _, e := recur.Base(v, a, b, api.MergeOptions{}); e != api.ErrInvalid {
		t.Errorf("Base = %d", e)
	}
	if s, l, e := recur.Base(v, x, y, api.MergeOptions{}); len(s.Items) != len(v.Store.Items) || len(l) != 1 || e != api.OK {
		t.Errorf("Base = %v, %d", l, e)
	}
	if s, l, e := recur.Base(v, a, p.commit(nil), api.MergeOptions{}); len(s.Items) != 0 || l != nil || e != api.ErrMissingObject {
		t.Errorf("Base = %v, %d", l, e)
	}
	stray := p.commit(texts{"f": "stray\n"})
	if s, l, e := recur.Base(p.view(), a, stray, api.MergeOptions{}); len(s.Items) != len(p.items) || l != nil || e != api.OK {
		t.Errorf("Base = %v, %d", l, e)
	}
	if _, _, e := recur.Merge(p.view(), a, stray, api.MergeOptions{}); e != api.ErrInvalid {
		t.Errorf("Merge = %d", e)
	}
}

// P24.1, P24.2, R2: a store that has no room for what would be created.
func TestFull(t *testing.T) {
	p := newPast()
	a, b := p.ladder(1)
	n := 0
	for len(p.items) < api.MaxItems {
		n++
		p.blob(fmt.Sprintf("blob %d", n))
	}
	v := p.view()
	if s, l, e := recur.Base(v, a, b, options()); len(s.Items) != 0 || l != nil || e != api.ErrTooLarge {
		t.Errorf("Base = %v, %d", l, e)
	}
	if s, m, e := recur.Merge(v, a, b, options()); len(s.Items) != 0 || m.Files != nil || e != api.ErrTooLarge {
		t.Errorf("Merge = %v, %d", m, e)
	}
	p.without(p.blob("blob 1"))
	if s, l, e := recur.Base(p.view(), a, b, options()); len(s.Items) != api.MaxItems || len(l) != 1 || e != api.OK {
		t.Errorf("Base = %v, %d", l, e)
	}
}

// draws returns numbers below n that depend on seed alone.
func draws(seed uint64) func(n int) int {
	return func(n int) int {
		seed = seed*6364136223846793005 + 1442695040888963407
		return int((seed >> 33) % uint64(n))
	}
}

// some returns some strings of a list, in any order.
func some(next func(n int) int, l []string, n int) []string {
	var out []string
	for range n {
		out = append(out, l[next(len(l))])
	}
	return out
}

// anyPast returns a random history with random files, and the IDs of its commits in the order in which they were made.
func anyPast(next func(n int) int, size int) (*past, []string) {
	p := newPast()
	width := 2 + next(3)
	var ids []string
	for range size {
		var parents []string
		for range [...]int{0, 1, 2, 2, 3, 3, 3, 4, 4, 4}[next(10)] {
			if len(ids) >= width {
				parents = append(parents, ids[max(0, len(ids)/width*width-1-next(width+1))])
			}
		}
		slices.Sort(parents)
		files := make(texts)
		for range next(4) {
			text := ""
			for i := range 4 {
				text += fmt.Sprintf("%d %d\n", i, next(30)/28)
			}
			files[fmt.Sprint(next(4))] = text
		}
		ids = append(ids, p.commit(files, slices.Compact(parents)...))
	}
	return p, ids
}

// P24.1 to P24.4: random histories against plain references.
func TestRandom(t *testing.T) {
	next := draws(24)
	depths := make([]int, 40)
	for n := range 400 {
		p, ids := anyPast(next, 1+n%20)
		var cuts []string
		if n%3 == 0 {
			cuts = []string{ids[next(len(ids))], "z"}
		}
		v := p.view(cuts...)
		for range 5 {
			a, b := ids[max(0, len(ids)-1-next(1+next(8)))], ids[max(0, len(ids)-1-next(3))]
			o := api.MergeOptions{Least: 1 + next(100), Side: next(4), Ours: "main", Theirs: "topic", Style: 1 + next(2)}
			expect(t, v, a, b, o)
			depths[deep(v, []string{a}, b)]++
		}
	}
	if depths[1] < 50 || depths[2] < 20 || depths[3] < 5 {
		t.Errorf("depths that came: %d", depths)
	}
}

// P24.5 to P24.7: what holds of merges.
func TestProperties(t *testing.T) {
	next := draws(7)
	for n := range 60 {
		p, ids := anyPast(next, 2+n%12)
		v := p.view()
		for _, a := range ids {
			for _, b := range ids {
				s, m, e := recur.Merge(v, a, b, options())
				if e != api.OK || !tmerge.Valid(m) {
					t.Errorf("Merge = %v, %d", m, e)
				}
				for id, x := range p.items {
					if i, in := slices.BinarySearchFunc(s.Items, id, func(x api.Item, id string) int { return strings.Compare(x.Id, id) }); !in || s.Items[i] != x {
						t.Errorf("Merge lost %v", x)
					}
				}
				bases := best(v, []string{a}, b)
				ours, _ := flat.Of(v.Store, a)
				theirs, _ := flat.Of(v.Store, b)
				if len(bases) < 2 {
					var old []api.File
					for _, id := range bases {
						old, _ = flat.Of(v.Store, id)
					}
					u, want, _ := tmerge.Merge(v.Store, old, ours, theirs, options())
					if !slices.Equal(s.Items, u.Items) || !sameMerged(m, want) {
						t.Errorf("Merge = %v, want %v", m, want)
					}
					if n, e := recur.Depth(v, a, b); n != 0 || e != api.OK {
						t.Errorf("Depth = %d, %d", n, e)
					}
				}
				if older, _ := walk.IsAncestor(v, a, b); older && (!slices.Equal(m.Files, theirs) || len(m.Notes) != 0) {
					t.Errorf("Merge of an ancestor = %v, want %v", m, theirs)
				}
				if older, _ := walk.IsAncestor(v, b, a); older && (!slices.Equal(m.Files, ours) || len(m.Notes) != 0) {
					t.Errorf("Merge with an ancestor = %v, want %v", m, ours)
				}
			}
		}
	}
}

// rows adds levels of commits, each with all commits of the level ahead of it as parents, and returns the last level.
func (p *past) rows(width, levels int) []string {
	var row []string
	for n := range levels {
		var above []string
		for i := range width {
			above = append(above, p.commit(texts{"f": fmt.Sprintf("%d %d\n", n, i)}, row...))
		}
		row = above
	}
	return row
}

// P24.1 to P24.3, R1: histories with many ways down take no more time than they have merge bases.
func TestWide(t *testing.T) {
	start := time.Now()
	p := newPast()
	tips := p.rows(api.MaxParents, api.MaxVirtual+1)
	v := p.view()
	for _, b := range tips[1:] {
		if n, e := recur.Depth(v, tips[0], b); n != api.MaxVirtual || e != api.OK {
			t.Errorf("Depth = %d, %d", n, e)
		}
	}
	if _, l, e := recur.Base(v, tips[0], tips[1], options()); len(l) != 1 || e != api.OK {
		t.Errorf("Base = %v, %d", l, e)
	}
	if _, m, e := recur.Merge(v, tips[0], tips[1], options()); len(m.Notes) != 1 || e != api.OK {
		t.Errorf("Merge = %v, %d", m, e)
	}
	p = newPast()
	const levels = 4000
	tips = p.rows(api.MaxParents, levels)
	v = p.view()
	if n, e := recur.Depth(v, tips[7], tips[4]); n != levels-1 || e != api.OK {
		t.Errorf("Depth = %d, %d", n, e)
	}
	if _, l, e := recur.Base(v, tips[7], tips[4], options()); l != nil || e != api.ErrTooLarge {
		t.Errorf("Base = %v, %d", l, e)
	}
	// Two merge bases with nothing in common, and many ways down from either.
	p = newPast()
	x, _ := p.ladder(60)
	y, _ := p.ladder(60)
	a, b := p.cross(nil, x, y)
	if n, e := recur.Depth(p.view(), a, b); n != 1 || e != api.OK {
		t.Errorf("Depth = %d, %d", n, e)
	}
	// Random parents leave hundreds of thousands of lists of merge bases, most of them too deep to be looked at.
	p = newPast()
	next, tree := draws(64), p.tree(nil)
	tips = nil
	for range 20 {
		var above []string
		for range 64 {
			var parents []string
			if tips != nil {
				parents = slices.Compact(slices.Sorted(slices.Values(some(next, tips, 5))))
			}
			above = append(above, p.on(tree, parents...))
		}
		tips = above
	}
	a, b = p.on(tree, tips[:8]...), p.on(tree, tips[56:]...)
	if _, l, e := recur.Base(p.view(), a, b, options()); l != nil || e != api.ErrTooLarge {
		t.Errorf("Base = %v, %d", l, e)
	}
	if d := time.Since(start); d > 20*time.Second {
		t.Errorf("it took %s", d)
	}
}

// P24.1 to P24.4, R1: as many commits as a store may have: in two lines that cross all the time, or all of them merge bases of two.
func TestMost(t *testing.T) {
	start := time.Now()
	p := newPast()
	tree := p.tree(nil)
	x, y := p.on(tree), p.on(tree)
	for len(p.items) < api.MaxItems-1 {
		x, y = p.on(tree, x, y), p.on(tree, y, x)
	}
	v := p.view()
	if n, e := recur.Depth(v, x, y); n != (len(p.items)-1)/2-1 || e != api.OK {
		t.Errorf("Depth = %d, %d", n, e)
	}
	if _, l, e := recur.Base(v, x, y, options()); l != nil || e != api.ErrTooLarge {
		t.Errorf("Base = %v, %d", l, e)
	}
	if n, e := recur.Already(v, x, y); n != 0 || e != api.OK {
		t.Errorf("Already = %d, %d", n, e)
	}
	p = newPast()
	tree = p.tree(texts{"f": "f\n"})
	var roots []string
	for range 50000 {
		roots = append(roots, p.on(tree))
	}
	join := func() string {
		l := roots
		for len(l) > 1 {
			var up []string
			for some := range slices.Chunk(l, api.MaxParents) {
				up = append(up, p.on(tree, some...))
			}
			l = up
		}
		return l[0]
	}
	a, b := join(), join()
	v = p.view()
	if n, e := recur.Depth(v, a, b); n != 1 || e != api.OK {
		t.Errorf("Depth = %d, %d", n, e)
	}
	if d := time.Since(start); d > 20*time.Second {
		t.Errorf("it took %s", d)
	}
}

// R3: the view stays as it is, and answers are new memory.
func TestMemory(t *testing.T) {
	p := newPast()
	a, b := p.ladder(2)
	one := p.commit(texts{"f": "one\n"}, a)
	v, same := p.view("z", "y"), p.view("z", "y")
	spare := len(v.Store.Items)
	v.Store.Items = append(v.Store.Items, api.Item{Id: "spare"})[:spare]
	for _, c := range []string{b, one, p.commit(nil), a} {
		for range 2 {
			s, l, _ := recur.Base(v, a, c, options())
			for i := range s.Items {
				s.Items[i].Id = "!"
			}
			for i := range l {
				l[i].Path = "!"
			}
			s, m, _ := recur.Merge(v, a, c, options())
			for i := range s.Items {
				s.Items[i].Body = "!"
			}
			clear(m.Files)
			clear(m.Slots)
			clear(m.Notes)
			recur.Depth(v, a, c)
			recur.Already(v, a, c)
		}
	}
	if !slices.Equal(v.Store.Items, same.Store.Items) || !slices.Equal(v.Cuts, same.Cuts) || v.Store.Items[:spare+1][spare].Id != "spare" {
		t.Error("an argument was changed")
	}
}

// R1: stores that aren't well formed have no specified answers, but answers.
func TestForged(t *testing.T) {
	x, y := strings.Repeat("0a", 20), strings.Repeat("0b", 20)
	body := func(parent string) string {
		return "tree " + x + "\nparent " + parent + "\nauthor a <a@b> 5 +0000\ncommitter a <a@b> 5 +0000\n\n"
	}
	forged := []api.Item{
		{Id: x, Kind: api.Commits, Body: body(y)},
		{Id: y, Kind: api.Commits, Body: body(x)},
		{Id: x, Kind: api.Commits, Body: body(x)},
		{Id: y, Kind: api.Commits, Body: "x"},
		{Id: x, Kind: api.Commits},
		{Id: x, Kind: api.Tree},
		{Id: y, Kind: math.MinInt},
	}
	for _, a := range forged {
		for _, b := range forged {
			for _, cuts := range [][]string{nil, {x}, {y}} {
				v := api.View{Store: api.Store{Items: []api.Item{a, b}}, Cuts: cuts}
				recur.Base(v, x, y, options())
				recur.Merge(v, x, y, options())
				recur.Depth(v, x, y)
				recur.Already(v, x, y)
			}
		}
	}
}
