package store_test

import (
	"encoding/hex"
	"fmt"
	"maps"
	"slices"
	"strings"
	"testing"

	"graftage/api"
	"graftage/store"
)

// arc is a link of an object, and the kind that it implies.
type arc struct {
	id   string
	kind int
}

// graph holds objects, and what each of them refers to, as it was made.
type graph struct {
	items []api.Item
	arcs  map[string][]arc
}

// add makes an object that refers to others.
func (g *graph) add(kind int, body string, arcs ...arc) string {
	if g.arcs == nil {
		g.arcs = make(map[string][]arc)
	}
	x := item(kind, body)
	if _, met := g.arcs[x.Id]; !met {
		g.items = append(g.items, x)
	}
	g.arcs[x.Id] = arcs
	return x.Id
}

// blob makes a blob.
func (g *graph) blob(text string) string {
	return g.add(api.Blob, text)
}

// tree makes a tree whose entries are named in order.
func (g *graph) tree(arcs ...arc) string {
	body := ""
	for i, x := range arcs {
		raw, _ := hex.DecodeString(x.id)
		mode := []string{"100644", "100755", "120000"}[i%3]
		if x.kind == api.Tree {
			mode = "40000"
		}
		body += fmt.Sprintf("%s n%06d\x00%s", mode, i, raw)
	}
	return g.add(api.Tree, body, arcs...)
}

// commit makes a commit.
func (g *graph) commit(tree string, parents ...string) string {
	body := "tree " + tree + "\n"
	arcs := []arc{{tree, api.Tree}}
	for _, p := range parents {
		body += "parent " + p + "\n"
		arcs = append(arcs, arc{p, api.Commits})
	}
	who := "a <a@b> 5 +0000\n"
	return g.add(api.Commits, body+"author "+who+"committer "+who+"\n", arcs...)
}

// tag makes a tag.
func (g *graph) tag(id string, kind int) string {
	body := "object " + id + "\ntype " + words[kind] + "\ntag v\ntagger a <a@b> 5 +0000\n\n"
	return g.add(api.Tags, body, arc{id, kind})
}

// reached returns the IDs that are reachable in a store of the graph, and whether the kinds of the objects are those that all links imply.
func (g *graph) reached(s api.Store, cuts, from []string) (map[string]bool, bool) {
	kinds := make(map[string]int)
	for _, x := range s.Items {
		kinds[x.Id] = x.Kind
	}
	met := make(map[string]bool)
	right := true
	var visit func(id string)
	visit = func(id string) {
		if met[id] {
			return
		}
		met[id] = true
		for _, x := range g.arcs[id] {
			if kinds[id] == 0 || kinds[id] == api.Commits && x.kind == api.Commits && slices.Contains(cuts, id) {
				continue
			}
			right = right && kinds[x.id] == x.kind
			visit(x.id)
		}
	}
	for _, id := range from {
		visit(id)
	}
	return met, right
}

// expectReach fails unless Reach, Missing and Whole answer as the graph tells.
func (g *graph) expectReach(t *testing.T, s api.Store, cuts, from []string) {
	t.Helper()
	has := make(map[string]bool)
	for _, x := range s.Items {
		has[x.Id] = true
	}
	split := func(met map[string]bool) (all, missing []string) {
		for id := range met {
			all = append(all, id)
			if !has[id] {
				missing = append(missing, id)
			}
		}
		slices.Sort(all)
		slices.Sort(missing)
		return all, missing
	}
	met, _ := g.reached(s, nil, from)
	all, missing := split(met)
	if got := store.Missing(s, from); !slices.Equal(got, missing) {
		t.Errorf("Missing(%q) = %q, want %q", from, got, missing)
	}
	code := api.OK
	if len(missing) > 0 {
		all, code = nil, api.ErrMissingObject
	}
	if got, e := store.Reach(s, from); !slices.Equal(got, all) || e != code {
		t.Errorf("Reach(%q) = %q, %d, want %q, %d", from, got, e, all, code)
	}
	met, right := g.reached(s, cuts, from)
	_, missing = split(met)
	if got, want := store.Whole(s, cuts, from), right && len(missing) == 0; got != want {
		t.Errorf("Whole(%q, %q) = %t", cuts, from, got)
	}
}

// small returns a graph with a history of three commits and tags, and its IDs.
func small() (*graph, []string) {
	g := &graph{}
	b := g.blob("b")
	sub := g.tree(arc{b, api.Blob})
	top := g.tree(arc{b, api.Blob}, arc{sub, api.Tree}, arc{sub, api.Tree})
	one := g.commit(sub)
	two := g.commit(top, one)
	three := g.commit(sub, two, one)
	v := g.tag(three, api.Commits)
	g.tag(v, api.Tags)
	g.tag(b, api.Blob)
	g.tag(top, api.Tree)
	var ids []string
	for _, x := range g.items {
		ids = append(ids, x.Id)
	}
	return g, ids
}

// P17.6, P17.7, P17.8: the empty list reaches nothing; an ID that isn't there is missing, whatever string it is.
func TestFromNothing(t *testing.T) {
	g, ids := small()
	for _, s := range []api.Store{{}, of(g.items...)} {
		if l, e := store.Reach(s, nil); len(l) != 0 || e != api.OK || len(store.Missing(s, nil)) != 0 || !store.Whole(s, ids, nil) {
			t.Errorf("Reach(nil) = %q, %d", l, e)
		}
		for _, id := range []string{"", "x", strings.Repeat("0", 40), ids[0] + "0", strings.ToUpper(ids[0]) + "A"} {
			for _, from := range [][]string{{id}, {id, id}, {"", id, ""}} {
				g.expectReach(t, s, []string{id}, from)
			}
		}
	}
}

// P17.6, P17.7, P17.8: any part of a small history, from any object of it.
func TestParts(t *testing.T) {
	g, ids := small()
	for n := range 1 << len(g.items) {
		s := of(subset(g.items, n)...)
		for i, id := range ids {
			g.expectReach(t, s, nil, []string{id})
			g.expectReach(t, s, ids, []string{id, ids[(i+n)%len(ids)], id})
		}
	}
}

// P17.6: the answer is ascending, has each ID once, and the starting IDs among them.
func TestReach(t *testing.T) {
	g, ids := small()
	s := of(g.items...)
	want := slices.Clone(ids)
	slices.Sort(want)
	if got, e := store.Reach(s, append(slices.Clone(ids), ids...)); !slices.Equal(got, want) || e != api.OK {
		t.Errorf("Reach = %q, %d, want %q", got, e, want)
	}
	got, e := store.Reach(s, ids[4:5]) // the second commit
	want = slices.Clone(ids[:5])
	slices.Sort(want)
	if !slices.Equal(got, want) || e != api.OK {
		t.Errorf("Reach = %q, %d, want %q", got, e, want)
	}
}

// P17.6, P17.7: the second example: the tree of a commit is not in the store.
func TestMissingTree(t *testing.T) {
	g := &graph{}
	tree := g.tree()
	c := g.commit(tree)
	s := of(g.items[1])
	if got := store.Missing(s, []string{c}); !slices.Equal(got, []string{tree}) {
		t.Errorf("Missing = %q", got)
	}
	if l, e := store.Reach(s, []string{c}); l != nil || e != api.ErrMissingObject {
		t.Errorf("Reach = %q, %d", l, e)
	}
	if store.Whole(s, nil, []string{c}) || store.Whole(s, []string{c}, []string{c}) {
		t.Error("a commit without its tree is whole")
	}
}

// P17.7: all that is missing is told, ascending, but not what is reachable only through what is missing.
func TestMissing(t *testing.T) {
	g, ids := small()
	var c string
	for i := range 20 {
		c = g.commit(g.tree(arc{g.blob(fmt.Sprint(i)), api.Blob}), ids[3])
	}
	var commits []api.Item
	var trees []string
	for _, x := range g.items[len(ids):] {
		switch x.Kind {
		case api.Commits:
			commits = append(commits, x)
		case api.Tree:
			trees = append(trees, x.Id)
		}
	}
	s := of(commits...)
	want := append(trees, ids[3])
	slices.Sort(want)
	if got := store.Missing(s, append(store.Ids(s), c)); !slices.Equal(got, want) {
		t.Errorf("Missing = %q, want %q", got, want)
	}
}

// P17.8: each link that implies another kind than the object has, also to an object that was met already, or is one of the starting IDs.
func TestKinds(t *testing.T) {
	right := &graph{}
	blob := right.blob("x")
	tree := right.tree(arc{blob, api.Blob})
	c := right.commit(tree)
	v := right.tag(c, api.Commits)
	made := map[int]string{api.Blob: blob, api.Tree: tree, api.Commits: c, api.Tags: v}
	expect := func(grow func(g *graph) string, want bool) {
		t.Helper()
		g := &graph{items: slices.Clone(right.items), arcs: maps.Clone(right.arcs)}
		id := grow(g)
		s := of(g.items...)
		for _, from := range [][]string{{id}, {v, id}, {id, v}, {tree, blob, c, id}, {id, tree, blob, c}} {
			if got := store.Whole(s, nil, from); got != want {
				t.Errorf("Whole(%q) = %t with %q", from, got, g.items[len(g.items)-1].Body)
			}
			g.expectReach(t, s, nil, from)
		}
	}
	for kind, id := range made {
		expect(func(g *graph) string { return g.tree(arc{id, api.Tree}) }, kind == api.Tree)
		expect(func(g *graph) string { return g.tree(arc{id, api.Blob}) }, kind == api.Blob)
		expect(func(g *graph) string { return g.tree(arc{blob, api.Blob}, arc{id, api.Blob}) }, kind == api.Blob)
		expect(func(g *graph) string { return g.tree(arc{blob, api.Blob}, arc{blob, api.Blob}, arc{id, api.Blob}) }, kind == api.Blob)
		expect(func(g *graph) string { return g.tree(arc{id, api.Blob}, arc{id, api.Tree}) }, false)
		expect(func(g *graph) string { return g.tree(arc{id, api.Tree}, arc{id, api.Blob}) }, false)
		expect(func(g *graph) string { return g.commit(id) }, kind == api.Tree)
		expect(func(g *graph) string { return g.commit(tree, id) }, kind == api.Commits)
		expect(func(g *graph) string { return g.commit(tree, g.commit(tree, c), id) }, kind == api.Commits)
		expect(func(g *graph) string { return g.commit(id, id) }, false)
		for named := range words {
			expect(func(g *graph) string { return g.tag(id, named) }, kind == named)
			expect(func(g *graph) string { return g.tag(g.tag(id, named), api.Tags) }, kind == named)
		}
	}
}

// P17.8: a commit among the cuts has no parents, but a tree; other IDs among them count for nothing.
func TestCuts(t *testing.T) {
	g := &graph{}
	blob := g.blob("x")
	tree := g.tree(arc{blob, api.Blob})
	one := g.commit(tree)
	two := g.commit(tree, one)
	three := g.commit(tree, two)
	v := g.tag(three, api.Commits)
	whole := func(want bool, missing string, cuts []string, from ...string) {
		t.Helper()
		s := of(slices.DeleteFunc(slices.Clone(g.items), func(x api.Item) bool { return x.Id == missing })...)
		if got := store.Whole(s, cuts, from); got != want {
			t.Errorf("Whole(%q, %q) = %t", cuts, from, got)
		}
		g.expectReach(t, s, cuts, from)
	}
	whole(false, one, nil, v)
	whole(true, one, []string{two}, v)
	whole(true, one, []string{three}, v)
	whole(true, one, []string{three, two, "", "x", two}, v)
	whole(false, one, []string{v, tree, blob, one, ""}, v)
	whole(false, one, []string{two}, v, one)
	whole(false, one, []string{two, one}, v, one)
	whole(false, two, []string{two}, v)
	whole(true, two, []string{three}, v, one)
	whole(false, three, []string{v}, v)
	whole(false, three, []string{three}, v)
	whole(false, tree, []string{three, two, one}, three)
	whole(false, blob, []string{three, two, one, tree}, three)
	whole(true, "", []string{three}, three)
	wrong := g.commit(tree, tree, blob)
	whole(false, "", nil, wrong)
	whole(true, "", []string{wrong}, wrong)
	wrongTree := g.commit(blob, one)
	whole(false, "", []string{wrongTree}, wrongTree)
}

// P17.6 to P17.8, P17.10: many histories with links of all sorts, wrong ones too, against a plain reference.
func TestHistories(t *testing.T) {
	for seed := range 3000 {
		draw := draws(uint64(seed))
		g := &graph{}
		g.blob("a")
		pick := func() string { return g.items[draw(len(g.items))].Id }
		kind := func(id string, want int) int {
			for _, x := range g.items {
				if x.Id == id && draw(20) > 0 && (x.Kind == want || want == 0) {
					return x.Kind
				}
			}
			return 1 + draw(4)
		}
		for n := range 3 + draw(12) {
			switch draw(5) {
			case 0:
				g.blob(fmt.Sprint(n))
			case 1, 2:
				var arcs []arc
				for range draw(4) {
					id := pick()
					if k := kind(id, 0); k <= api.Tree {
						arcs = append(arcs, arc{id, k})
					}
				}
				g.tree(arcs...)
			case 3:
				var parents []string
				for range draw(3) {
					if id := pick(); !slices.Contains(parents, id) && kind(id, api.Commits) == api.Commits {
						parents = append(parents, id)
					}
				}
				tree := pick()
				for range 5 {
					if kind(tree, api.Tree) != api.Tree {
						tree = pick()
					}
				}
				g.commit(tree, parents...)
			case 4:
				id := pick()
				g.tag(id, kind(id, 0))
			}
		}
		expectHistory(t, g, draw)
	}
}

// expectHistory holds a graph against the plain reference, in full and without some of its objects, and checks that what is reachable is closed and grows with the starting IDs.
func expectHistory(t *testing.T, g *graph, draw func(n int) int) {
	t.Helper()
	full := of(g.items...)
	if !store.Valid(full) {
		t.Fatalf("%v isn't well formed", full)
	}
	for range 8 {
		s := full
		if draw(2) > 0 {
			gone := draw(len(s.Items))
			s = api.Store{Items: slices.Delete(slices.Clone(s.Items), gone, gone+1)}
		}
		var cuts, from []string
		for range draw(4) {
			cuts = append(cuts, g.items[draw(len(g.items))].Id)
			from = append(from, g.items[draw(len(g.items))].Id)
		}
		g.expectReach(t, s, cuts, from)
	}
	var before []string
	for _, x := range g.items {
		l, e := store.Reach(full, append(before, x.Id))
		if again, f := store.Reach(full, l); e != api.OK || f != api.OK || !slices.Equal(again, l) {
			t.Errorf("Reach(%q) = %q, not closed", x.Id, l)
		}
		for _, id := range append(before, x.Id) {
			if !slices.Contains(l, id) {
				t.Errorf("Reach = %q, without %q", l, id)
			}
		}
		before = l
	}
}

// R1: a long history, and trees that are reached on many ways, are gone through in good time.
func TestLong(t *testing.T) {
	g := &graph{}
	tree := g.tree()
	for range 40 {
		tree = g.tree(arc{tree, api.Tree}, arc{tree, api.Tree}, arc{tree, api.Tree})
	}
	c := g.commit(tree)
	first := c
	for len(g.items) < 20000 {
		c = g.commit(tree, c)
	}
	s := of(g.items...)
	if l, e := store.Reach(s, []string{c}); len(l) != len(g.items) || e != api.OK || len(store.Missing(s, l)) != 0 || !store.Whole(s, nil, l) {
		t.Errorf("Reach = %d IDs, %d", len(l), e)
	}
	s = store.Less(s, store.Only(s, []string{first}))
	if got := store.Missing(s, []string{c}); !slices.Equal(got, []string{first}) || store.Whole(s, nil, []string{c}) {
		t.Errorf("Missing = %q", got)
	}
}

// R1: stores that aren't well formed have no specified answers, but answers.
func TestForged(t *testing.T) {
	id := strings.Repeat("0a", 20)
	g := &graph{}
	g.tree(arc{id, api.Tree}, arc{id, api.Blob})
	g.commit(id, id)
	g.tag(id, api.Tags)
	g.blob("x")
	forged := []api.Item{{Id: id}, {Id: id, Kind: api.Tree, Body: "x"}, {Id: id, Kind: api.Commits}, {Id: id, Kind: api.Tags}, {Id: id, Kind: 9}}
	for _, x := range g.items {
		x.Id = id
		forged = append(forged, x)
	}
	for _, x := range forged {
		for _, s := range []api.Store{{Items: []api.Item{x}}, {Items: []api.Item{x, x}}, {Items: append(slices.Clone(forged), api.Item{}, x)}} {
			store.Valid(s)
			store.Put(s, api.Object{Kind: api.Blob})
			store.Get(s, id)
			store.Has(s, "")
			store.Ids(s)
			store.Union(s, s)
			store.Only(s, []string{id})
			store.Less(s, s)
			store.Reach(s, []string{id})
			store.Missing(s, []string{id})
			store.Whole(s, []string{id}, []string{id})
			store.Whole(s, nil, []string{id})
		}
	}
}
