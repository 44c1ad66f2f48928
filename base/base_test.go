package base_test

import (
	"crypto/sha256"
	"encoding/hex"
	"fmt"
	"slices"
	"strings"
	"testing"
	"time"

	"graftage/api"
	"graftage/base"
	"graftage/walk"
)

// past holds objects, and the parents of the commits among them.
type past struct {
	items   []api.Item
	parents map[string][]string
}

// newPast returns a past of one empty tree.
func newPast() *past {
	p := &past{parents: make(map[string][]string)}
	p.add(api.Tree, "tree", "")
	return p
}

// add adds an object.
func (p *past) add(kind int, word, body string) string {
	sum := sha256.Sum256(fmt.Appendf(nil, "%s %d\x00%s", word, len(body), body))
	id := hex.EncodeToString(sum[:20])
	p.items = append(p.items, api.Item{Id: id, Kind: kind, Body: body})
	return id
}

// commit adds a commit, which no other one equals, with a committer time.
func (p *past) commit(time int, parents ...string) string {
	body := "tree " + p.items[0].Id + "\n"
	for _, id := range parents {
		body += "parent " + id + "\n"
	}
	body += fmt.Sprintf("author a <a@b> 5 +0000\ncommitter a <a@b> %d -0130\n\n%d\n", time, len(p.items))
	id := p.add(api.Commits, "commit", body)
	p.parents[id] = slices.Clone(parents)
	return id
}

// view returns the view of all objects with some commits cut off. Refs bear on nothing.
func (p *past) view(cuts ...string) api.View {
	items := slices.Clone(p.items)
	slices.SortFunc(items, func(a, b api.Item) int { return strings.Compare(a.Id, b.Id) })
	return api.View{Store: api.Store{Items: items}, Refs: []api.Ref{{Name: "HEAD", Id: "x"}}, Cuts: slices.Clone(cuts)}
}

// walked returns the error of walk for some commits, one by one.
func walked(v api.View, ids ...string) api.Errno {
	for _, id := range ids {
		if _, e := walk.All(v, []string{id}); e != api.OK {
			return e
		}
	}
	return api.OK
}

// behind returns the ancestors of a commit.
func (p *past) behind(cuts []string, id string) map[string]bool {
	set := map[string]bool{id: true}
	if !slices.Contains(cuts, id) {
		for _, parent := range p.parents[id] {
			for id := range p.behind(cuts, parent) {
				set[id] = true
			}
		}
	}
	return set
}

// many is Many by the letter.
func (p *past) many(cuts []string, ids ...string) []string {
	sets := make(map[string]map[string]bool)
	for id := range p.parents {
		sets[id] = p.behind(cuts, id)
	}
	var common, out []string
	for x := range p.parents {
		if len(ids) > 0 && !slices.ContainsFunc(ids, func(id string) bool { return !sets[id][x] }) {
			common = append(common, x)
		}
	}
	for _, x := range common {
		if !slices.ContainsFunc(common, func(y string) bool { return x != y && sets[y][x] }) {
			out = append(out, x)
		}
	}
	slices.Sort(out)
	return out
}

// heads is Heads by the letter.
func (p *past) heads(cuts []string, ids ...string) []string {
	var out []string
	for _, x := range ids {
		if !slices.Contains(out, x) && !slices.ContainsFunc(ids, func(y string) bool { return x != y && p.behind(cuts, y)[x] }) {
			out = append(out, x)
		}
	}
	slices.Sort(out)
	return out
}

// expectIds fails unless a call answered just this.
func expectIds(t *testing.T, name string, got []string, e api.Errno, want []string, code api.Errno) {
	t.Helper()
	if !slices.Equal(got, want) || e != code {
		t.Errorf("%s = %q, %d, want %q, %d", name, got, e, want, code)
	}
}

// expectPair fails unless All, IsFastForward, Fork and Many answer for two commits as the past tells.
func expectPair(t *testing.T, p *past, cuts []string, a, b string) {
	t.Helper()
	v := p.view(cuts...)
	code := walked(v, a, b)
	var want []string
	fork, none := "", code
	if code == api.OK {
		want = p.many(cuts, a, b)
		none = api.ErrNotFound
		order, _ := walk.Order(v, []string{a, b})
		for _, id := range order {
			if slices.Contains(want, id) {
				fork, none = id, api.OK
				break
			}
		}
	}
	l, e := base.All(v, a, b)
	expectIds(t, fmt.Sprintf("All(%q, %q)", a, b), l, e, want, code)
	l, e = base.Many(v, []string{a, b})
	expectIds(t, fmt.Sprintf("Many(%q, %q)", a, b), l, e, want, code)
	if id, e := base.Fork(v, a, b); id != fork || e != none {
		t.Errorf("Fork(%q, %q) = %q, %d, want %q, %d", a, b, id, e, fork, none)
	}
	older, code := walk.IsAncestor(v, a, b)
	if got, e := base.IsFastForward(v, a, b); got != older || e != code {
		t.Errorf("IsFastForward(%q, %q) = %t, %d, want %t, %d", a, b, got, e, older, code)
	}
}

// expectMany fails unless Many and Heads answer for some commits as the past tells.
func expectMany(t *testing.T, p *past, cuts []string, ids ...string) {
	t.Helper()
	v := p.view(cuts...)
	code := walked(v, ids...)
	var many, heads []string
	if code == api.OK {
		many, heads = p.many(cuts, ids...), p.heads(cuts, ids...)
	}
	l, e := base.Many(v, ids)
	expectIds(t, fmt.Sprintf("Many(%q)", ids), l, e, many, code)
	l, e = base.Heads(v, ids)
	expectIds(t, fmt.Sprintf("Heads(%q)", ids), l, e, heads, code)
}

// P23.1, P23.4, P23.5: the examples.
func TestExamples(t *testing.T) {
	p := newPast()
	one := p.commit(1)
	two, three := p.commit(2, one), p.commit(3, one)
	four, five := p.commit(4, two, three), p.commit(5, two, three)
	stray := p.commit(6)
	v := p.view()
	for _, x := range []struct {
		a, b string
		want []string
		fork string
	}{
		{two, three, []string{one}, one},
		{one, three, []string{one}, one},
		{three, three, []string{three}, three},
		{four, five, []string{min(two, three), max(two, three)}, three},
		{four, two, []string{two}, two},
		{one, five, []string{one}, one},
	} {
		for _, l := range [][2]string{{x.a, x.b}, {x.b, x.a}} {
			got, e := base.All(v, l[0], l[1])
			expectIds(t, "All", got, e, x.want, api.OK)
			if id, e := base.Fork(v, l[0], l[1]); id != x.fork || e != api.OK {
				t.Errorf("Fork = %q, %d, want %q", id, e, x.fork)
			}
		}
	}
	got, e := base.All(v, stray, five)
	expectIds(t, "All", got, e, nil, api.OK)
	if id, e := base.Fork(v, stray, five); id != "" || e != api.ErrNotFound {
		t.Errorf("Fork = %q, %d", id, e)
	}
	// Where a commit is cut off, what is behind it is no common ancestor any more.
	got, e = base.All(p.view(four, two), four, five)
	expectIds(t, "All", got, e, nil, api.OK)
	got, e = base.All(p.view(two), two, three)
	expectIds(t, "All", got, e, nil, api.OK)
	got, e = base.All(p.view(one, "z"), two, three)
	expectIds(t, "All", got, e, []string{one}, api.OK)
	for _, x := range []struct {
		from, to string
		want     bool
	}{{one, three, true}, {three, one, false}, {two, three, false}, {two, two, true}, {one, five, true}} {
		if got, e := base.IsFastForward(v, x.from, x.to); got != x.want || e != api.OK {
			t.Errorf("IsFastForward = %t, %d, want %t", got, e, x.want)
		}
	}
}

// P23.2, P23.3: of no commits, of one, of a commit named twice, and of more.
func TestFew(t *testing.T) {
	p := newPast()
	one := p.commit(1)
	two, three := p.commit(2, one), p.commit(3, one)
	four := p.commit(4, two)
	v := p.view()
	for _, x := range []struct{ ids, many, heads []string }{
		{nil, nil, nil},
		{[]string{four}, []string{four}, []string{four}},
		{[]string{four, four, four}, []string{four}, []string{four}},
		{[]string{one, four}, []string{one}, []string{four}},
		{[]string{four, three, two}, []string{one}, []string{min(three, four), max(three, four)}},
		{[]string{four, two, four}, []string{two}, []string{four}},
		{[]string{two, three, one, three}, []string{one}, []string{min(two, three), max(two, three)}},
	} {
		l, e := base.Many(v, x.ids)
		expectIds(t, "Many", l, e, x.many, api.OK)
		l, e = base.Heads(v, x.ids)
		expectIds(t, "Heads", l, e, x.heads, api.OK)
	}
	l, e := base.Many(api.View{}, nil)
	expectIds(t, "Many", l, e, nil, api.OK)
	l, e = base.Heads(api.View{}, []string{})
	expectIds(t, "Heads", l, e, nil, api.OK)
}

// P23.5: of several merge bases, times decide, and the children of them ahead of these.
func TestFork(t *testing.T) {
	p := newPast()
	expect := func(want string, ids ...string) {
		t.Helper()
		for _, l := range [][]string{ids, {ids[1], ids[0]}} {
			if id, e := base.Fork(p.view(), l[0], l[1]); id != want || e != api.OK {
				t.Errorf("Fork = %q, %d, want %q", id, e, want)
			}
		}
	}
	old, young, alike := p.commit(1), p.commit(2), p.commit(2)
	expect(young, p.commit(3, old, young), p.commit(3, young, old))
	expect(min(young, alike), p.commit(3, alike, young), p.commit(3, young, alike, old))
	// The youngest one waits for its children, of which one is older than the other bases.
	child := p.commit(0, young)
	expect(old, p.commit(3, old, child), p.commit(3, young, old))
	expect(alike, p.commit(3, alike, child), p.commit(4, young, alike))
}

// P23.1 to P23.5: errors, in the order in which commits are given.
func TestErrors(t *testing.T) {
	p := newPast()
	missing, blob, root := strings.Repeat("0a", 20), p.add(api.Blob, "blob", "x"), p.commit(1)
	m, k := p.commit(2, missing), p.commit(3, blob)
	mk, km, both := p.commit(5, m, k), p.commit(6, k, m), p.commit(7, root, k)
	tag := p.add(api.Tags, "tag", "object "+root+"\ntype commit\ntag v\ntagger a <a@b> 5 +0000\n\n")
	for _, cuts := range [][]string{nil, {m}, {k}, {m, k}, {mk, both}, {missing, blob, tag}} {
		l := []string{missing, blob, root, m, k, mk, km, both, tag, "", p.items[0].Id, strings.ToUpper(root)}
		for _, a := range l {
			expectMany(t, p, cuts, a)
			for _, b := range l {
				expectPair(t, p, cuts, a, b)
				expectMany(t, p, cuts, root, a, root, b)
				expectMany(t, p, cuts, a, root, b, a)
			}
		}
	}
	for _, x := range []struct {
		a, b string
		want api.Errno
	}{{m, k, api.ErrMissingObject}, {k, m, api.ErrKind}, {root, km, api.ErrKind}, {root, mk, api.ErrMissingObject}, {root, tag, api.ErrKind}, {missing, root, api.ErrMissingObject}} {
		l, e := base.All(p.view(), x.a, x.b)
		expectIds(t, "All", l, e, nil, x.want)
		l, e = base.Heads(p.view(), []string{x.a, x.b})
		expectIds(t, "Heads", l, e, nil, x.want)
		if id, e := base.Fork(p.view(), x.a, x.b); id != "" || e != x.want {
			t.Errorf("Fork = %q, %d, want %d", id, e, x.want)
		}
	}
	if is, e := base.IsFastForward(p.view(), m, k); is || e != api.ErrKind { // of the first one, only its parents are asked for
		t.Errorf("IsFastForward = %t, %d", is, e)
	}
}

// draws returns numbers below n that depend on seed alone.
func draws(seed uint64) func(n int) int {
	return func(n int) int {
		seed = seed*6364136223846793005 + 1442695040888963407
		return int((seed >> 33) % uint64(n))
	}
}

// anyPast returns a random history and the IDs of its commits.
func anyPast(next func(n int) int, size int) (*past, []string) {
	p := newPast()
	var ids []string
	for range size {
		var parents []string
		for range next(9) % 5 {
			if len(ids) > 0 {
				parents = append(parents, ids[max(0, len(ids)-2-next(5))])
			}
		}
		slices.Sort(parents)
		ids = append(ids, p.commit(next(6), slices.Compact(parents)...))
	}
	return p, ids
}

// some returns some strings of a list, in any order.
func some(next func(n int) int, l []string, n int) []string {
	var out []string
	for range n {
		out = append(out, l[next(len(l))])
	}
	return out
}

// P23.1 to P23.5: every history of four commits, with each order of times.
func TestSmall(t *testing.T) {
	for shape := range 1 << 6 {
		for times := range 16 {
			p := newPast()
			var ids []string
			bit := 0
			for n := range 4 {
				var parents []string
				for _, id := range ids {
					if shape>>bit&1 == 1 {
						parents = append(parents, id)
					}
					bit++
				}
				ids = append(ids, p.commit(times>>n&1, parents...))
			}
			for _, a := range ids {
				for _, b := range ids {
					expectPair(t, p, nil, a, b)
					expectMany(t, p, nil, a, b, ids[times&3])
				}
			}
		}
	}
}

// P23.1 to P23.5: random histories against plain references.
func TestRandom(t *testing.T) {
	next := draws(23)
	several := 0
	for n := range 700 {
		p, ids := anyPast(next, 1+n%16)
		cuts := some(next, ids, next(3))
		if n%3 == 0 {
			cuts = nil
		}
		for range 6 {
			a, b := ids[max(0, len(ids)-1-next(1+next(16)))], ids[max(0, len(ids)-1-next(3))]
			expectPair(t, p, cuts, a, b)
			expectMany(t, p, cuts, some(next, ids, next(6))...)
			if len(p.many(cuts, a, b)) > 1 {
				several++
			}
		}
	}
	if several < 100 {
		t.Errorf("%d times there were several merge bases", several)
	}
}

// P23.2, P23.3: more commits at once than a word has bits.
func TestWide(t *testing.T) {
	for _, n := range []int{63, 64, 65, 127, 128, 129, 200} {
		for last := range 3 {
			p := newPast()
			root := p.commit(1)
			trunk := p.commit(2, root)
			var tips []string
			for range n {
				tips = append(tips, p.commit(3, trunk))
			}
			want := trunk
			slices.Sort(tips)
			switch last {
			case 1: // the one with the greatest ID has no more than the root
				want = root
				odd := p.commit(3, root)
				for odd < tips[n-2] {
					odd = p.commit(3, root)
				}
				tips[n-1] = odd
			case 2: // and the root itself is one
				want = root
				tips[n/2] = root
			}
			expectIds := func(name string, got []string, e api.Errno, want ...string) {
				t.Helper()
				if !slices.Equal(got, want) || e != api.OK {
					t.Errorf("%s of %d commits = %d commits, %d, want %d", name, n, len(got), e, len(want))
				}
			}
			l, e := base.Many(p.view(), tips)
			expectIds("Many", l, e, want)
			heads := slices.DeleteFunc(slices.Sorted(slices.Values(tips)), func(id string) bool { return id == root })
			l, e = base.Heads(p.view(), tips)
			expectIds("Heads", l, e, heads...)
			stray := p.commit(4)
			l, e = base.Many(p.view(), append(tips, stray))
			expectIds("Many", l, e)
		}
	}
}

// P23.6: what holds of merge bases and heads.
func TestProperties(t *testing.T) {
	next := draws(6)
	for range 60 {
		p, ids := anyPast(next, 10)
		cuts := some(next, ids, next(3))
		v := p.view(cuts...)
		older := func(a, b string) bool {
			is, _ := walk.IsAncestor(v, a, b)
			return is
		}
		for _, a := range ids {
			for _, b := range ids {
				l, _ := base.All(v, a, b)
				if same, _ := base.All(v, b, a); !slices.Equal(l, same) {
					t.Errorf("All = %q, and %q if exchanged", l, same)
				}
				if older(a, b) && !slices.Equal(l, []string{a}) {
					t.Errorf("All = %q of a commit and an ancestor", l)
				}
				for _, id := range ids {
					top := slices.Contains(l, id)
					common := older(id, a) && older(id, b)
					of := slices.ContainsFunc(l, func(x string) bool { return older(id, x) })
					other := slices.ContainsFunc(l, func(x string) bool { return x != id && older(id, x) })
					if top && !common || common != of || top && other {
						t.Errorf("All = %q, and %q is an ancestor of both: %t", l, id, common)
					}
				}
			}
		}
		list := some(next, ids, 5)
		heads, _ := base.Heads(v, list)
		again, e := base.Heads(v, heads)
		expectIds(t, "Heads", again, e, heads, api.OK)
		all, _ := walk.All(v, list)
		same, _ := walk.All(v, heads)
		expectIds(t, "All of Heads", same, api.OK, all, api.OK)
	}
}

// P23.1 to P23.5, R1: as many commits as a store may have, in good time.
func TestMost(t *testing.T) {
	start := time.Now()
	p := newPast()
	var line []string
	for len(p.items) < api.MaxItems {
		line = append(line, p.commit(len(p.items)%7, line[max(0, len(line)-1):]...))
	}
	last := len(line) - 1
	for _, cuts := range [][]string{nil, slices.Repeat([]string{strings.Repeat("0a", 20), p.items[0].Id}, api.MaxItems/2)} {
		v := p.view(cuts...)
		l, e := base.All(v, line[last], line[last/2])
		expectIds(t, "All", l, e, line[last/2:last/2+1], api.OK)
		l, e = base.Many(v, line)
		expectIds(t, "Many", l, e, line[:1], api.OK)
		l, e = base.Heads(v, line)
		expectIds(t, "Heads", l, e, line[last:], api.OK)
		if id, e := base.Fork(v, line[9], line[last]); id != line[9] || e != api.OK {
			t.Errorf("Fork = %q, %d", id, e)
		}
	}
	// Half of them are a line, and the others all have the end of it as their only parent.
	p = newPast()
	line = nil
	for len(line) < api.MaxItems/2 {
		line = append(line, p.commit(1, line[max(0, len(line)-1):]...))
	}
	last = len(line) - 1
	var tips []string
	for len(p.items) < api.MaxItems {
		tips = append(tips, p.commit(2, line[last]))
	}
	v := p.view()
	l, e := base.Many(v, tips)
	expectIds(t, "Many", l, e, line[last:], api.OK)
	l, e = base.Heads(v, slices.Concat(tips, line, tips))
	slices.Sort(tips)
	expectIds(t, "Heads", l, e, tips, api.OK)
	if d := time.Since(start); d > 20*time.Second {
		t.Errorf("it took %s", d)
	}
}

// R3: the view and the lists stay as they are, and answers are new memory.
func TestMemory(t *testing.T) {
	p := newPast()
	a := p.commit(1)
	b, c := p.commit(2, a), p.commit(3, a)
	v := p.view("z", a)
	ids := []string{c, b, c, a, "?", "?"}
	for range 2 {
		all, _ := base.All(v, b, c)
		many, _ := base.Many(v, ids[:3])
		heads, _ := base.Heads(v, ids[:4])
		base.Fork(v, b, c)
		base.IsFastForward(v, a, c)
		for _, l := range [][]string{all, many, heads} {
			if len(l) == 0 {
				t.Error("there is no answer")
			}
			for i := range l {
				l[i] = "!"
			}
		}
	}
	same := p.view("z", a)
	if !slices.Equal(v.Store.Items, same.Store.Items) || !slices.Equal(v.Cuts, same.Cuts) || !slices.Equal(ids, []string{c, b, c, a, "?", "?"}) {
		t.Error("an argument was changed")
	}
}

// R1: stores that aren't well formed have no specified answers, but answers.
func TestForged(t *testing.T) {
	p := newPast()
	tree := p.items[0]
	x, y := strings.Repeat("0a", 20), strings.Repeat("0b", 20)
	body := func(parent string) string {
		return "tree " + tree.Id + "\nparent " + parent + "\nauthor a <a@b> 5 +0000\ncommitter a <a@b> 5 +0000\n\n"
	}
	forged := []api.Item{
		{Id: x, Kind: api.Commits, Body: body(y)},
		{Id: y, Kind: api.Commits, Body: body(x)},
		{Id: x, Kind: api.Commits, Body: body(x)},
		{Id: y, Kind: api.Commits, Body: "x"},
		{Id: x, Kind: api.Commits},
		{Id: y, Kind: 9},
	}
	for _, a := range forged {
		for _, b := range forged {
			for _, cuts := range [][]string{nil, {x}, {y}} {
				v := api.View{Store: api.Store{Items: []api.Item{a, b}}, Cuts: cuts}
				base.All(v, x, y)
				base.Many(v, []string{x, y, x})
				base.Heads(v, []string{x, y})
				base.Fork(v, x, y)
				base.IsFastForward(v, x, y)
			}
		}
	}
}
