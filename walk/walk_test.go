package walk_test

import (
	"crypto/sha256"
	"encoding/hex"
	"fmt"
	"math"
	"slices"
	"strings"
	"testing"
	"time"

	"graftage/api"
	"graftage/walk"
)

// made is a commit as it was made.
type made struct {
	parents []string
	time    int
}

// past holds objects, and the commits among them as they were made.
type past struct {
	items   []api.Item
	commits map[string]made
}

// newPast returns a past of one empty tree.
func newPast() *past {
	p := &past{commits: make(map[string]made)}
	p.add(api.Tree, "tree", "")
	return p
}

// add adds an object.
func (p *past) add(kind int, word, body string) string {
	sum := sha256.Sum256(fmt.Appendf(nil, "%s %d\x00%s", word, len(body), body))
	id := hex.EncodeToString(sum[:20])
	p.items = append(p.items, api.Item{Id: id, Kind: kind, Body: body})
	return id
}

// body returns the body of a commit, which no other one has.
func (p *past) body(time int, parents ...string) string {
	body := "tree " + p.items[0].Id + "\n"
	for _, id := range parents {
		body += "parent " + id + "\n"
	}
	// The author's time bears on nothing.
	return body + fmt.Sprintf("author a <a@b> %d +0000\ncommitter a <a@b> %d -0130\n\n%d\n", 7*len(p.items)%50, time, len(p.items))
}

// commit adds a commit with a committer time.
func (p *past) commit(time int, parents ...string) string {
	id := p.add(api.Commits, "commit", p.body(time, parents...))
	p.commits[id] = made{slices.Clone(parents), time}
	return id
}

// tag adds an annotated tag of a commit.
func (p *past) tag(id string) string {
	return p.add(api.Tags, "tag", "object "+id+"\ntype commit\ntag v\ntagger a <a@b> 5 +0000\n\n")
}

// without removes an object.
func (p *past) without(id string) {
	p.items = slices.DeleteFunc(p.items, func(x api.Item) bool { return x.Id == id })
	delete(p.commits, id)
}

// view returns the view of all objects with some commits cut off. Refs and reflogs bear on nothing.
func (p *past) view(cuts ...string) api.View {
	items := slices.Clone(p.items)
	slices.SortFunc(items, func(a, b api.Item) int { return strings.Compare(a.Id, b.Id) })
	return api.View{
		Store: api.Store{Items: items},
		Refs:  []api.Ref{{Name: "refs/heads/x", Id: p.items[0].Id}, {Name: "HEAD", Sym: "x"}},
		Logs:  []api.Reflog{{Name: "HEAD", Lines: []api.LogEntry{{New: "x"}}}},
		Cuts:  slices.Clone(cuts),
	}
}

// parents is Parents by the letter.
func (p *past) parents(cuts []string, id string) ([]string, api.Errno) {
	if c, ok := p.commits[id]; ok {
		if slices.Contains(cuts, id) {
			return nil, api.OK
		}
		return c.parents, api.OK
	}
	for _, x := range p.items {
		if x.Id == id {
			return nil, api.ErrKind
		}
	}
	return nil, api.ErrMissingObject
}

// all returns the ancestors in the order in which they are come by, or the first error.
func (p *past) all(cuts []string, from ...string) ([]string, api.Errno) {
	var met []string
	work := slices.Clone(from)
	for len(work) > 0 {
		id := work[0]
		work = work[1:]
		if slices.Contains(met, id) {
			continue
		}
		l, e := p.parents(cuts, id)
		if e != api.OK {
			return nil, e
		}
		met = append(met, id)
		work = slices.Concat(l, work)
	}
	return met, api.OK
}

// order sorts some commits topologically: time and again, it looks for the next one.
func (p *past) order(cuts, set []string) []string {
	left := slices.Clone(set)
	var out []string
	for len(left) > 0 {
		best := ""
		for _, id := range left {
			child := slices.ContainsFunc(left, func(c string) bool {
				l, _ := p.parents(cuts, c)
				return slices.Contains(l, id)
			})
			a, b := p.commits[id].time, p.commits[best].time
			if !child && (best == "" || a > b || a == b && id < best) {
				best = id
			}
		}
		out = append(out, best)
		left = slices.DeleteFunc(left, func(id string) bool { return id == best })
	}
	return out
}

// number returns the generation number of a commit.
func (p *past) number(cuts []string, id string) int {
	n := 1
	l, _ := p.parents(cuts, id)
	for _, id := range l {
		n = max(n, 1+p.number(cuts, id))
	}
	return n
}

// less returns the strings of a that aren't in b.
func less(a, b []string) []string {
	return slices.DeleteFunc(slices.Clone(a), func(s string) bool { return slices.Contains(b, s) })
}

// expectParents fails unless Parents answers just this.
func expectParents(t *testing.T, v api.View, id string, want []string, code api.Errno) {
	t.Helper()
	if got, e := walk.Parents(v, id); !slices.Equal(got, want) || e != code {
		t.Errorf("Parents(%q) = %q, %d, want %q, %d", id, got, e, want, code)
	}
}

// expectFirst fails unless First answers just this.
func expectFirst(t *testing.T, v api.View, id string, n int, want string, code api.Errno) {
	t.Helper()
	if got, e := walk.First(v, id, n); got != want || e != code {
		t.Errorf("First(%q, %d) = %q, %d, want %q, %d", id, n, got, e, want, code)
	}
}

// expectAll fails unless All, Order, Generations, Range and Tip answer as the past tells.
func expectAll(t *testing.T, p *past, cuts []string, from ...string) {
	t.Helper()
	v := p.view(cuts...)
	met, code := p.all(cuts, from...)
	order := p.order(cuts, met)
	var numbers []api.Generation
	slices.Sort(met)
	for _, id := range met {
		numbers = append(numbers, api.Generation{Id: id, N: p.number(cuts, id)})
	}
	if got, e := walk.All(v, from); !slices.Equal(got, met) || e != code {
		t.Errorf("All(%q) = %q, %d, want %q, %d", from, got, e, met, code)
	}
	if got, e := walk.Order(v, from); !slices.Equal(got, order) || e != code {
		t.Errorf("Order(%q) = %q, %d, want %q, %d", from, got, e, order, code)
	}
	if got, e := walk.Generations(v, from); !slices.Equal(got, numbers) || e != code {
		t.Errorf("Generations(%q) = %v, %d, want %v, %d", from, got, e, numbers, code)
	}
	if got, e := walk.Range(v, nil, from); !slices.Equal(got, order) || e != code {
		t.Errorf("Range(nil, %q) = %q, %d, want %q, %d", from, got, e, order, code)
	}
	tip := ""
	if len(order) > 0 {
		tip = order[0]
	}
	if got, ok := walk.Tip(v, from); got != tip || ok != (tip != "") {
		t.Errorf("Tip(%q) = %q, %t, want %q", from, got, ok, tip)
	}
}

// expectPair fails unless IsAncestor and Range of two commits answer as the past tells.
func expectPair(t *testing.T, p *past, cuts []string, a, b string) {
	t.Helper()
	v := p.view(cuts...)
	old, first := p.all(cuts, a)
	met, code := p.all(cuts, b)
	_, e := p.parents(cuts, a)
	if e == api.OK {
		e = code
	}
	if got, n := walk.IsAncestor(v, a, b); got != (e == api.OK && slices.Contains(met, a)) || n != e {
		t.Errorf("IsAncestor(%q, %q) = %t, %d, want %d", a, b, got, n, e)
	}
	var want []string
	if first == api.OK {
		first = code
		want = p.order(cuts, less(met, old))
	}
	if got, e := walk.Range(v, []string{a}, []string{b}); !slices.Equal(got, want) || e != first {
		t.Errorf("Range(%q, %q) = %q, %d, want %q, %d", a, b, got, e, want, first)
	}
}

// P22.1: parents come in the order of the body; those of a commit that is cut off don't.
func TestParents(t *testing.T) {
	p := newPast()
	var l []string
	for i := range api.MaxParents {
		l = append(l, p.commit(i))
	}
	slices.SortFunc(l, func(a, b string) int { return strings.Compare(b, a) })
	many, one, missing := p.commit(5, l...), p.commit(5, l[3]), strings.Repeat("0a", 20)
	loose := p.commit(5, missing, p.items[0].Id)
	expectParents(t, p.view(), many, l, api.OK)
	expectParents(t, p.view(), one, l[3:4], api.OK)
	expectParents(t, p.view(), l[0], nil, api.OK)
	expectParents(t, p.view(), loose, []string{missing, p.items[0].Id}, api.OK)
	expectParents(t, p.view(l...), many, l, api.OK)
	for _, cuts := range [][]string{{many}, {"z", many, "", many, one, missing}, {one, "a", many}, {strings.Repeat("f", 40), many}} {
		expectParents(t, p.view(cuts...), many, nil, api.OK)
	}
	expectParents(t, p.view(one), many, l, api.OK)
	expectParents(t, p.view(many[:39], many+"0", strings.ToUpper(many)), many, l, api.OK)
	blob, tag := p.add(api.Blob, "blob", "x"), p.tag(one)
	for _, cuts := range [][]string{nil, {missing, blob, tag, p.items[0].Id, ""}} {
		v := p.view(cuts...)
		for _, id := range []string{missing, "", "x", one[:39], one + "0", strings.ToUpper(one), strings.Repeat("f", 40), strings.Repeat("0", 40)} {
			expectParents(t, v, id, nil, api.ErrMissingObject)
			expectParents(t, api.View{Cuts: cuts}, id, nil, api.ErrMissingObject)
		}
		for _, id := range []string{blob, tag, p.items[0].Id} {
			expectParents(t, v, id, nil, api.ErrKind)
		}
	}
}

// P22.3: the example, and what goes ahead of what.
func TestOrderExamples(t *testing.T) {
	p := newPast()
	a, b := p.commit(1), p.commit(2)
	c := p.commit(3, a, b)
	expect := func(v api.View, from []string, want ...string) {
		t.Helper()
		if got, e := walk.Order(v, from); !slices.Equal(got, want) || e != api.OK {
			t.Errorf("Order(%q) = %q, %d, want %q", from, got, e, want)
		}
	}
	expect(p.view(), []string{c}, c, b, a)
	expect(p.view(), []string{a, b, c, a}, c, b, a)
	expect(p.view(), []string{a, b}, b, a)
	expect(p.view(c), []string{c}, c)
	expect(p.view(c), []string{a, c}, c, a)
	expect(p.view(a, b), []string{c}, c, b, a)
	expect(p.view(), nil)
	// A parent may be younger than its child, and still comes behind it, and at once if nothing is younger.
	young := p.commit(9)
	old := p.commit(0, young)
	expect(p.view(), []string{c, old}, c, b, a, old, young)
	all := p.commit(4, old, c)
	expect(p.view(), []string{all}, all, c, b, a, old, young)
	// A commit waits for all of its children, and of equally young ones the smallest ID goes ahead.
	root := p.commit(8)
	kids := []string{p.commit(5, root), p.commit(5, root), p.commit(5, root), p.commit(5, root)}
	slices.Sort(kids)
	want := append(slices.Clone(kids), root)
	expect(p.view(), want, want...)
	slices.Reverse(kids)
	expect(p.view(), kids, want...)
	expect(p.view(kids...), kids, want[:4]...)
	expect(p.view(kids[1:]...), kids, want...)
	// Times are told apart to the last.
	late, later := p.commit(api.MaxTime-1), p.commit(api.MaxTime)
	expect(p.view(), []string{late, later}, later, late)
	expect(p.view(), []string{later, late}, later, late)
}

// P22.2 to P22.6, P22.8: the first error in traversal order, of what is asked first.
func TestErrors(t *testing.T) {
	p := newPast()
	missing, blob, root := strings.Repeat("0a", 20), p.add(api.Blob, "blob", "x"), p.commit(1)
	m, k := p.commit(2, missing), p.commit(3, blob)
	deep := p.commit(4, root, m, k)
	mk, km, both := p.commit(5, m, k), p.commit(6, k, m), p.commit(7, root, deep, k)
	tag := p.tag(root)
	ids := []string{missing, blob, root, m, k, deep, mk, km, both, tag, "", p.items[0].Id}
	for _, cuts := range [][]string{nil, {m}, {k}, {m, k}, {deep}, {missing, blob, tag}, {mk, both}} {
		for _, a := range ids {
			expectAll(t, p, cuts, a)
			for _, b := range ids {
				expectAll(t, p, cuts, a, b)
				expectAll(t, p, cuts, root, a, root, b)
				expectPair(t, p, cuts, a, b)
			}
		}
		expectAll(t, p, cuts)
	}
	v := p.view()
	for _, x := range []struct {
		from []string
		want api.Errno
	}{{[]string{root, mk}, api.ErrMissingObject}, {[]string{km, mk}, api.ErrKind}, {[]string{both}, api.ErrMissingObject}, {[]string{both, k}, api.ErrMissingObject}, {[]string{k, both}, api.ErrKind}, {[]string{tag}, api.ErrKind}} {
		if _, e := walk.All(v, x.from); e != x.want {
			t.Errorf("All(%q) = %d, want %d", x.from, e, x.want)
		}
	}
	if _, e := walk.Range(v, []string{m}, []string{k}); e != api.ErrMissingObject {
		t.Errorf("Range = %d", e)
	}
	if _, e := walk.Range(v, []string{k}, []string{m}); e != api.ErrKind {
		t.Errorf("Range = %d", e)
	}
	if _, e := walk.IsAncestor(v, m, k); e != api.ErrKind { // the parents of the first one needn't be there
		t.Errorf("IsAncestor = %d", e)
	}
	if is, e := walk.IsAncestor(v, m, root); is || e != api.OK {
		t.Errorf("IsAncestor = %t, %d", is, e)
	}
}

// P22.7: each commit on the way must be there, the last one, too.
func TestFirst(t *testing.T) {
	p := newPast()
	missing, blob, tag := strings.Repeat("0a", 20), p.add(api.Blob, "blob", "x"), p.tag(strings.Repeat("0b", 20))
	side := p.commit(9)
	one := p.commit(1)
	two := p.commit(2, one, side)
	three := p.commit(3, two, missing, one)
	v := p.view("z", side)
	for n, id := range []string{three, two, one} {
		expectFirst(t, v, three, n, id, api.OK)
	}
	expectFirst(t, v, two, 1, one, api.OK)
	for _, n := range []int{3, 4, 5, 1 << 20, math.MaxInt, -1, -2, -3, math.MinInt} {
		expectFirst(t, v, three, n, "", api.ErrNotFound)
	}
	expectFirst(t, v, one, 1, "", api.ErrNotFound)
	expectFirst(t, v, one, -1, "", api.ErrNotFound)
	expectFirst(t, p.view(two), three, 1, two, api.OK)
	expectFirst(t, p.view(two), three, 2, "", api.ErrNotFound)
	expectFirst(t, p.view(three), three, 0, three, api.OK)
	expectFirst(t, p.view(three), three, 1, "", api.ErrNotFound)
	for _, n := range []int{math.MinInt, -1, 0, 1, 2, math.MaxInt} {
		expectFirst(t, v, missing, n, "", api.ErrMissingObject)
		expectFirst(t, v, "", n, "", api.ErrMissingObject)
		expectFirst(t, v, blob, n, "", api.ErrKind)
		expectFirst(t, v, tag, n, "", api.ErrKind)
		expectFirst(t, api.View{}, three, n, "", api.ErrMissingObject)
	}
	lost, wrong := p.commit(4, missing, one), p.commit(5, blob, one)
	v = p.view(missing, blob)
	expectFirst(t, v, lost, 0, lost, api.OK)
	expectFirst(t, v, wrong, 0, wrong, api.OK)
	for _, n := range []int{1, 2, 3, math.MaxInt} {
		expectFirst(t, v, lost, n, "", api.ErrMissingObject)
		expectFirst(t, v, wrong, n, "", api.ErrKind)
	}
	expectFirst(t, v, lost, -1, "", api.ErrNotFound)
	expectFirst(t, p.view(lost), lost, 1, "", api.ErrNotFound)
	// A store of nothing but the way.
	p = newPast()
	p.commit(1, missing)
	c := p.commit(2, p.items[1].Id)
	p.without(p.items[0].Id)
	expectFirst(t, p.view(), c, 1, p.items[0].Id, api.OK)
	expectFirst(t, p.view(), c, 2, "", api.ErrMissingObject)
	expectFirst(t, p.view(), c, 3, "", api.ErrMissingObject)
}

// draws returns numbers below n that depend on seed alone.
func draws(seed uint64) func(n int) int {
	return func(n int) int {
		seed = seed*6364136223846793005 + 1442695040888963407
		return int((seed >> 33) % uint64(n))
	}
}

// anyPast returns a random history, and strings to ask for: the IDs of its commits, and some others if holes is true.
func anyPast(next func(n int) int, size int, holes bool) (*past, []string) {
	p := newPast()
	var ids []string
	for range size {
		var parents []string
		for range next(4) {
			if len(ids) > 0 {
				parents = append(parents, ids[max(0, len(ids)-1-next(5))])
			}
		}
		slices.Sort(parents)
		parents = slices.Compact(parents)
		if next(2) == 0 {
			slices.Reverse(parents)
		}
		if holes && next(12) == 0 {
			parents = append(parents, []string{strings.Repeat("0a", 20), p.items[0].Id}[next(2)])
		}
		ids = append(ids, p.commit(next(6), parents...))
	}
	if holes && next(2) == 0 {
		p.without(ids[next(len(ids))])
	}
	if holes {
		ids = append(ids, p.items[0].Id, "")
	}
	return p, ids
}

// some returns some strings of a list, in any order, possibly one of them twice.
func some(next func(n int) int, l []string, n int) []string {
	var out []string
	for range n {
		out = append(out, l[next(len(l))])
	}
	return out
}

// first is First by the letter.
func (p *past) first(cuts []string, id string, n int) (string, api.Errno) {
	l, e := p.parents(cuts, id)
	switch {
	case e != api.OK:
		return "", e
	case n == 0:
		return id, api.OK
	case n < 0 || len(l) == 0:
		return "", api.ErrNotFound
	}
	return p.first(cuts, l[0], n-1)
}

// P22.1 to P22.8: random histories against plain references.
func TestRandom(t *testing.T) {
	next := draws(22)
	errors := 0
	for n := range 2000 {
		p, ids := anyPast(next, 1+n%14, n%3 == 0)
		cuts := some(next, ids, next(4))
		if n%4 == 0 {
			cuts = nil
		}
		v := p.view(cuts...)
		from, have := some(next, ids, next(4)), some(next, ids, next(4))
		expectAll(t, p, cuts, from...)
		expectPair(t, p, cuts, ids[next(len(ids))], ids[next(len(ids))])
		old, code := p.all(cuts, have...)
		met, e := p.all(cuts, from...)
		if code == api.OK {
			code = e
		}
		var want []string
		if code == api.OK {
			want = p.order(cuts, less(met, old))
		} else {
			errors++
		}
		if got, e := walk.Range(v, have, from); !slices.Equal(got, want) || e != code {
			t.Errorf("Range(%q, %q) = %q, %d, want %q, %d", have, from, got, e, want, code)
		}
		id := ids[next(len(ids))]
		l, e := p.parents(cuts, id)
		expectParents(t, v, id, l, e)
		for n := range 8 {
			commit, e := p.first(cuts, id, n-1)
			expectFirst(t, v, id, n-1, commit, e)
		}
	}
	if errors < 200 {
		t.Errorf("%d errors came", errors)
	}
}

// P22.9: Order holds each ancestor once, ahead of its parents, whatever their times are.
func TestOrder(t *testing.T) {
	next := draws(9)
	for range 300 {
		p, ids := anyPast(next, 30, false)
		cuts := some(next, ids, next(3))
		v := p.view(cuts...)
		from := some(next, ids, 1+next(3))
		l, _ := walk.Order(v, from)
		all, _ := walk.All(v, from)
		if got := slices.Sorted(slices.Values(l)); !slices.Equal(got, all) {
			t.Errorf("Order(%q) = %q, All %q", from, l, all)
		}
		for at, id := range l {
			parents, _ := walk.Parents(v, id)
			for _, parent := range parents {
				if slices.Index(l, parent) <= at {
					t.Errorf("Order(%q) = %q, where a parent of %q comes ahead of it", from, l, id)
				}
			}
		}
	}
}

// P22.10, P22.11: what holds of ancestors, of generations and of cuts.
func TestAncestry(t *testing.T) {
	next := draws(10)
	for range 60 {
		p, ids := anyPast(next, 9, false)
		cuts := some(next, ids, next(3))
		v := p.view(cuts...)
		older := func(a, b string) bool {
			is, e := walk.IsAncestor(v, a, b)
			if e != api.OK {
				t.Errorf("IsAncestor(%q, %q) = %d", a, b, e)
			}
			return is
		}
		for _, a := range ids {
			if !older(a, a) {
				t.Errorf("%q is no ancestor of itself", a)
			}
			numbers := make(map[string]int)
			l, _ := walk.Generations(v, []string{a})
			for _, g := range l {
				numbers[g.Id] = g.N
			}
			for id, n := range numbers {
				parents, _ := walk.Parents(v, id)
				for _, parent := range parents {
					if numbers[parent] < 1 || numbers[parent] >= n {
						t.Errorf("%q has number %d, its parent %d", id, n, numbers[parent])
					}
				}
			}
			for _, b := range ids {
				if a != b && older(a, b) && older(b, a) {
					t.Errorf("%q and %q are ancestors of each other", a, b)
				}
				for _, c := range ids {
					if older(a, b) && older(b, c) && !older(a, c) {
						t.Errorf("%q is an ancestor of %q, that of %q, but not of this one", a, b, c)
					}
				}
			}
			more := v
			more.Cuts = append(slices.Clone(cuts), ids[next(len(ids))])
			all, _ := walk.All(v, []string{a})
			if less, _ := walk.All(more, []string{a}); len(less) > len(all) || slices.ContainsFunc(less, func(id string) bool { return !slices.Contains(all, id) }) {
				t.Errorf("All(%q) = %q with more cuts, %q without", a, less, all)
			}
		}
	}
}

// P22.2 to P22.8, R1: as many commits as a store may have, in a single line, in many of them, or one with most parents, in good time.
func TestMany(t *testing.T) {
	start := time.Now()
	p := newPast()
	var line []string
	for len(p.items) < api.MaxItems {
		line = append(line, p.commit(len(p.items)%7, line[max(0, len(line)-1):]...))
	}
	slices.Reverse(line)
	for _, cuts := range [][]string{nil, slices.Repeat([]string{strings.Repeat("0a", 20), p.items[0].Id}, api.MaxItems/2)} {
		v := p.view(cuts...)
		if l, e := walk.Order(v, line[:1]); !slices.Equal(l, line) || e != api.OK {
			t.Errorf("Order = %d commits, %d", len(l), e)
		}
		l, e := walk.Generations(v, line)
		if len(l) != len(line) || e != api.OK {
			t.Errorf("Generations = %d commits, %d", len(l), e)
		}
		for _, g := range l {
			if g.Id == line[0] && g.N != len(line) {
				t.Errorf("the generation is %d", g.N)
			}
		}
		expectFirst(t, v, line[0], len(line)-1, line[len(line)-1], api.OK)
		expectFirst(t, v, line[0], len(line), "", api.ErrNotFound)
		expectFirst(t, v, line[0], math.MaxInt, "", api.ErrNotFound)
		if is, e := walk.IsAncestor(v, line[len(line)-1], line[0]); !is || e != api.OK {
			t.Errorf("IsAncestor = %t, %d", is, e)
		}
		if l, e := walk.Range(v, line[9:], line[:3]); !slices.Equal(l, line[:9]) || e != api.OK {
			t.Errorf("Range = %d commits, %d", len(l), e)
		}
	}
	p = newPast()
	rows := [][]string{{p.commit(1)}}
	for range 3000 {
		last := rows[len(rows)-1]
		var row []string
		for range api.MaxParents {
			row = append(row, p.commit(1, last...))
		}
		rows = append(rows, row)
	}
	v := p.view()
	tips := rows[len(rows)-1]
	if l, e := walk.Order(v, tips); len(l) != len(p.commits) || e != api.OK || l[len(l)-1] != rows[0][0] || l[0] != slices.Min(tips) {
		t.Errorf("Order = %d commits, %d", len(l), e)
	}
	if l, e := walk.Generations(v, tips[:1]); len(l) != len(p.commits)-7 || e != api.OK {
		t.Errorf("Generations = %d commits, %d", len(l), e)
	}
	if d := time.Since(start); d > 20*time.Second {
		t.Errorf("it took %s", d)
	}
}

// R3: the view and the lists stay as they are, and answers are new memory.
func TestMemory(t *testing.T) {
	p := newPast()
	a := p.commit(1)
	b, c := p.commit(2, a), p.commit(3, a)
	d := p.commit(4, c, b)
	v := p.view(b, "z", a)
	from, have := []string{d, b, d, "?"}, []string{b, "?"}
	for range 2 {
		walk.Parents(v, d)
		walk.All(v, from[:3])
		walk.Order(v, from[:3])
		walk.Generations(v, from[:3])
		walk.IsAncestor(v, a, d)
		walk.Range(v, have[:1], from[:3])
		walk.First(v, d, 1)
		walk.Tip(v, from[:3])
		for _, l := range [][]string{first(walk.Parents(v, d)), first(walk.All(v, from[:3])), first(walk.Order(v, from[:3])), first(walk.Range(v, have[:1], from[:3]))} {
			for i := range l {
				l[i] = "!"
			}
		}
	}
	same := p.view(b, "z", a)
	if !slices.Equal(v.Store.Items, same.Store.Items) || !slices.Equal(v.Cuts, same.Cuts) || !slices.Equal(from, []string{d, b, d, "?"}) || !slices.Equal(have, []string{b, "?"}) {
		t.Error("an argument was changed")
	}
	expectParents(t, v, d, []string{c, b}, api.OK)
}

// first returns the list that a call answers.
func first(l []string, e api.Errno) []string {
	return l
}

// R1: stores that aren't well formed have no specified answers, but answers.
func TestForged(t *testing.T) {
	p := newPast()
	x, y := strings.Repeat("0a", 20), strings.Repeat("0b", 20)
	forged := []api.Item{
		{Id: x, Kind: api.Commits, Body: p.body(1, y)},
		{Id: y, Kind: api.Commits, Body: p.body(2, x)},
		{Id: x, Kind: api.Commits, Body: p.body(2, x)},
		{Id: y, Kind: api.Commits, Body: "x"},
		{Id: x, Kind: api.Commits},
		{Id: y, Kind: 9},
	}
	for _, a := range forged {
		for _, b := range forged {
			for _, cuts := range [][]string{nil, {x}, {y}} {
				v := api.View{Store: api.Store{Items: []api.Item{a, b}}, Cuts: cuts}
				walk.Parents(v, x)
				walk.All(v, []string{x, y})
				walk.Order(v, []string{x, y})
				walk.Generations(v, []string{x, y})
				walk.IsAncestor(v, x, y)
				walk.Range(v, []string{x}, []string{y})
				walk.First(v, x, math.MaxInt)
				walk.First(v, x, math.MinInt)
				walk.Tip(v, []string{y})
			}
		}
	}
}
