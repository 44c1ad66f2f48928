package store_test

import (
	"crypto/sha256"
	"encoding/hex"
	"fmt"
	"slices"
	"strings"
	"testing"

	"graftage/api"
	"graftage/store"
)

// words holds the type names as the document writes them.
var words = map[int]string{1: "blob", 2: "tree", 3: "commit", 4: "tag"}

// plainId hashes the encoding of an object with a library of Go's.
func plainId(kind int, body string) string {
	sum := sha256.Sum256(fmt.Appendf(nil, "%s %d\x00%s", words[kind], len(body), body))
	return hex.EncodeToString(sum[:20])
}

// item returns an object together with its ID.
func item(kind int, body string) api.Item {
	return api.Item{Id: plainId(kind, body), Kind: kind, Body: body}
}

// bare returns the object of an item.
func bare(i api.Item) api.Object {
	return api.Object{Kind: i.Kind, Body: i.Body}
}

// of returns the store of some items, sorted by ID.
func of(items ...api.Item) api.Store {
	l := slices.Clone(items)
	slices.SortFunc(l, func(a, b api.Item) int { return strings.Compare(a.Id, b.Id) })
	return api.Store{Items: l}
}

// same reports whether two stores have the same items in the same order.
func same(a, b api.Store) bool {
	return slices.Equal(a.Items, b.Items)
}

// some returns n different items that are well formed, sorted by ID.
func some(n int) []api.Item {
	items := []api.Item{item(api.Tree, "")}
	for i := len(items); i < n; i++ {
		items = append(items, item(api.Blob, fmt.Sprint("blob ", i)))
	}
	return of(items[:n]...).Items
}

// subset returns the items at the bits of n.
func subset(items []api.Item, n int) []api.Item {
	var l []api.Item
	for i, x := range items {
		if n>>i&1 != 0 {
			l = append(l, x)
		}
	}
	return l
}

// absentIds lists strings that no item of a store has as its ID, on all sides of those that some have.
func absentIds(items []api.Item) []string {
	l := []string{"", "0", "z", strings.Repeat("0", 40), strings.Repeat("f", 40)}
	for _, x := range items {
		l = append(l, x.Id[:39], x.Id+"0", strings.ToUpper(x.Id)+"A", x.Id+"\x00", x.Id[:20]+strings.Repeat("0", 20), x.Id[:20]+strings.Repeat("f", 20))
	}
	return l
}

// expectValid fails unless Valid answers just this.
func expectValid(t *testing.T, s api.Store, want bool) {
	t.Helper()
	if got := store.Valid(s); got != want {
		t.Errorf("Valid of %d items, %.200v = %t", len(s.Items), s.Items[:min(len(s.Items), 4)], got)
	}
}

// expectPut fails unless Put answers just this.
func expectPut(t *testing.T, s api.Store, o api.Object, want api.Store, id string, code api.Errno) {
	t.Helper()
	if got, gotId, e := store.Put(s, o); !same(got, want) || gotId != id || e != code {
		t.Errorf("Put into %d items of {%d %.60q} = %d items, %q, %d, want %d, %q, %d", len(s.Items), o.Kind, o.Body, len(got.Items), gotId, e, len(want.Items), id, code)
	}
}

// expectUnion fails unless Union answers just this, on whichever side the stores are.
func expectUnion(t *testing.T, a, b, want api.Store, code api.Errno) {
	t.Helper()
	for _, x := range [][2]api.Store{{a, b}, {b, a}} {
		if got, e := store.Union(x[0], x[1]); !same(got, want) || e != code {
			t.Errorf("Union of %d and %d items = %d items, %d, want %d, %d", len(x[0].Items), len(x[1].Items), len(got.Items), e, len(want.Items), code)
		}
	}
}

// P17.1: every arrangement of a few items, which must be ascending and without duplicates.
func TestValidOrder(t *testing.T) {
	expectValid(t, api.Store{}, true)
	expectValid(t, api.Store{Items: []api.Item{}}, true)
	items := some(4)
	for n := range 4 * 4 * 4 * 4 {
		var l []api.Item
		ascending := true
		for ; n > 0; n /= 4 {
			x := items[n%4]
			ascending = ascending && (len(l) == 0 || l[len(l)-1].Id < x.Id)
			l = append(l, x)
		}
		expectValid(t, api.Store{Items: l}, ascending)
	}
}

// P17.1: an item that isn't well formed, or isn't stored under its own ID, wherever it stands.
func TestValidItems(t *testing.T) {
	long := strings.Repeat("x", api.MaxBytes)
	expectValid(t, of(item(api.Blob, long)), true)
	wrong := []api.Item{
		{},
		{Id: plainId(0, ""), Kind: 0},
		{Id: plainId(5, "x"), Kind: 5, Body: "x"},
		{Id: plainId(-1, "x"), Kind: -1, Body: "x"},
		item(api.Blob, long+"x"),
		item(api.Tree, "x"),
		item(api.Tree, "40000 \x00"+long[:20]),
		item(api.Commits, ""),
		item(api.Tags, "object x\n"),
		{Id: "", Kind: api.Blob, Body: "x"},
		{Id: plainId(api.Tree, "x"), Kind: api.Blob, Body: "x"},
		{Id: plainId(api.Blob, "y"), Kind: api.Blob, Body: "x"},
		{Id: strings.ToUpper(plainId(api.Blob, "x")), Kind: api.Blob, Body: "x"},
		{Id: plainId(api.Blob, "x")[:39], Kind: api.Blob, Body: "x"},
		{Id: plainId(api.Blob, "x") + "0", Kind: api.Blob, Body: "x"},
	}
	items := some(6)
	for _, x := range wrong {
		expectValid(t, of(x), false)
		expectValid(t, of(append(items, x)...), false)
		expectValid(t, of(append([]api.Item{x}, items[3:]...)...), false)
	}
	for at := range items {
		for _, change := range []func(x *api.Item){
			func(x *api.Item) { x.Body += "x" },
			func(x *api.Item) { x.Kind = 1 + x.Kind%4 },
			func(x *api.Item) { x.Id = x.Id[:39] + "x" },
		} {
			l := slices.Clone(items)
			change(&l[at])
			expectValid(t, api.Store{Items: l}, false)
		}
	}
}

// P17.1, P17.2, P17.4: at most MaxItems items.
func TestLimit(t *testing.T) {
	items := some(api.MaxItems + 1)
	full, most := api.Store{Items: items[1:]}, api.Store{Items: items[:api.MaxItems]}
	expectValid(t, full, true)
	expectValid(t, most, true)
	expectValid(t, api.Store{Items: items}, false)

	none := api.Store{}
	expectPut(t, full, bare(items[0]), none, "", api.ErrTooLarge)
	expectPut(t, most, bare(items[api.MaxItems]), none, "", api.ErrTooLarge)
	for _, at := range []int{1, 2, api.MaxItems / 2, api.MaxItems - 2} {
		expectPut(t, full, bare(items[at]), full, items[at].Id, api.OK)
		short := api.Store{Items: slices.Delete(slices.Clone(full.Items), at-1, at)}
		expectPut(t, short, bare(items[at]), full, items[at].Id, api.OK)
		expectPut(t, full, api.Object{Kind: api.Tree, Body: "x"}, none, "", api.ErrSyntax)
		forged := api.Store{Items: slices.Clone(full.Items)}
		forged.Items[at].Body += "x"
		expectPut(t, forged, bare(full.Items[at]), none, "", api.ErrCollision)
		expectUnion(t, forged, full, none, api.ErrCollision)
		expectUnion(t, forged, most, none, api.ErrCollision)
	}

	expectUnion(t, full, none, full, api.OK)
	expectUnion(t, full, full, full, api.OK)
	expectUnion(t, full, most, none, api.ErrTooLarge)
	for _, at := range []int{1, 2, api.MaxItems / 2, api.MaxItems} {
		low, high := api.Store{Items: items[:at]}, api.Store{Items: items[at:]}
		expectUnion(t, low, high, none, api.ErrTooLarge)
		expectUnion(t, low, full, none, api.ErrTooLarge)
		expectUnion(t, high, full, full, api.OK)
		low.Items = low.Items[1:]
		expectUnion(t, low, high, full, api.OK)
		expectUnion(t, low, full, full, api.OK)
	}
}

// P17.2: the errors of commit.Whole, which go ahead of a collision.
func TestPutErrors(t *testing.T) {
	long := strings.Repeat("x", api.MaxBytes+1)
	for _, c := range []struct {
		o    api.Object
		want api.Errno
	}{
		{api.Object{}, api.ErrKind},
		{api.Object{Kind: 5, Body: long}, api.ErrKind},
		{api.Object{Kind: -1}, api.ErrKind},
		{api.Object{Kind: api.Blob, Body: long}, api.ErrTooLarge},
		{api.Object{Kind: api.Tree, Body: "x"}, api.ErrSyntax},
		{api.Object{Kind: api.Tree, Body: "4"}, api.ErrTruncated},
		{api.Object{Kind: api.Tree, Body: "40000 \x00" + long[:20]}, api.ErrInvalid},
		{api.Object{Kind: api.Commits}, api.ErrSyntax},
		{api.Object{Kind: api.Tags}, api.ErrSyntax},
	} {
		for _, s := range []api.Store{{}, of(some(3)...), {Items: []api.Item{{Id: plainId(c.o.Kind, c.o.Body), Kind: api.Blob}}}} {
			expectPut(t, s, c.o, api.Store{}, "", c.want)
		}
	}
}

// P17.2: a different object under the same ID, of another body or of another kind.
func TestCollision(t *testing.T) {
	items := some(5)
	for at, x := range items {
		for _, forged := range []api.Item{
			{Id: x.Id, Kind: x.Kind, Body: x.Body + "x"},
			{Id: x.Id, Kind: 1 + x.Kind%4, Body: x.Body},
			{Id: x.Id},
		} {
			s := of(items...)
			s.Items[at] = forged
			expectPut(t, s, bare(x), api.Store{}, "", api.ErrCollision)
			expectUnion(t, s, of(x), api.Store{}, api.ErrCollision)
			expectUnion(t, s, of(items...), api.Store{}, api.ErrCollision)
			expectUnion(t, s, s, s, api.OK)
			other := items[(at+1)%len(items)]
			expectPut(t, s, bare(other), s, other.Id, api.OK)
			expectUnion(t, s, of(other), s, api.OK)
		}
	}
}

// P17.2, P17.3, P17.9: whatever is put into whatever store, in whatever order.
func TestPut(t *testing.T) {
	items := some(7)
	for n := range 1 << len(items) {
		s := of(subset(items, n)...)
		for i, x := range items {
			want := of(subset(items, n|1<<i)...)
			expectPut(t, s, bare(x), want, x.Id, api.OK)
		}
		expectStore(t, s, items)
	}
	for seed := range 1000 {
		var s api.Store
		var in []api.Item
		draw := draws(uint64(seed))
		for range 12 {
			x := items[draw(len(items))]
			if !slices.Contains(in, x) {
				in = append(in, x)
			}
			put, id, e := store.Put(s, bare(x))
			if e != api.OK || id != x.Id || !store.Valid(put) {
				t.Fatalf("Put(%v) = %q, %d", x, id, e)
			}
			s = put
			for _, y := range in {
				if o, e := store.Get(s, y.Id); o != bare(y) || e != api.OK {
					t.Errorf("Get(%q) = %v, %d behind Put of %v", y.Id, o, e, x)
				}
			}
		}
		if !same(s, of(in...)) {
			t.Errorf("the store is %v, want %v", s, of(in...))
		}
	}
}

// draws returns numbers below n that depend on seed alone.
func draws(seed uint64) func(n int) int {
	return func(n int) int {
		seed = seed*6364136223846793005 + 1442695040888963407
		return int((seed >> 33) % uint64(n))
	}
}

// expectStore fails unless Valid, Get, Has and Ids find just the items of s among all.
func expectStore(t *testing.T, s api.Store, all []api.Item) {
	t.Helper()
	expectValid(t, s, true)
	var ids []string
	for _, x := range s.Items {
		ids = append(ids, x.Id)
	}
	if got := store.Ids(s); !slices.Equal(got, ids) {
		t.Errorf("Ids = %q, want %q", got, ids)
	}
	for _, x := range all {
		want, code, has := api.Object{}, api.ErrNotFound, slices.Contains(ids, x.Id)
		if has {
			want, code = bare(x), api.OK
		}
		if got, e := store.Get(s, x.Id); got != want || e != code {
			t.Errorf("Get(%q) = %v, %d, want %v, %d", x.Id, got, e, want, code)
		}
		if store.Has(s, x.Id) != has {
			t.Errorf("Has(%q) = %t", x.Id, !has)
		}
	}
	for _, id := range absentIds(all) {
		if got, e := store.Get(s, id); got != (api.Object{}) || e != api.ErrNotFound || store.Has(s, id) {
			t.Errorf("Get(%q) = %v, %d", id, got, e)
		}
	}
}

// P17.4, P17.5, P17.11: all pairs of stores out of a few items.
func TestPairs(t *testing.T) {
	items := some(6)
	for n := range 1 << len(items) {
		for m := range 1 << len(items) {
			a, b := of(subset(items, n)...), of(subset(items, m)...)
			expectUnion(t, a, b, of(subset(items, n|m)...), api.OK)
			if got, want := store.Less(a, b), of(subset(items, n&^m)...); !same(got, want) {
				t.Errorf("Less(%v, %v) = %v, want %v", a, b, got, want)
			}
			ids := store.Ids(b)
			slices.Reverse(ids)
			ids = append(append(ids, absentIds(b.Items)...), ids...)
			if got, want := store.Only(a, ids), of(subset(items, n&m)...); !same(got, want) {
				t.Errorf("Only(%v, %q) = %v, want %v", a, ids, got, want)
			}
		}
	}
}

// P17.5: Less goes by the ID alone.
func TestLessForged(t *testing.T) {
	items := some(3)
	forged := of(items...)
	forged.Items[1].Body += "x"
	if got := store.Less(of(items...), forged); len(got.Items) != 0 {
		t.Errorf("Less = %v", got)
	}
	if got := store.Less(forged, of(items[0], items[2])); !same(got, of(forged.Items[1])) {
		t.Errorf("Less = %v", got)
	}
}

// R3: the arguments stay as they are, their spare capacity too, and no answer shares memory with them.
func TestMemory(t *testing.T) {
	items := some(6)
	spare := api.Item{Id: "spare"}
	backing := append(slices.Clone(items[:4]), spare, spare)
	s, other := api.Store{Items: backing[:4]}, of(items[2:]...)
	ids := []string{items[0].Id, items[3].Id, "", "spare"}
	var answers []api.Store
	for _, x := range items {
		put, _, _ := store.Put(s, bare(x))
		answers = append(answers, put)
	}
	for _, x := range []api.Store{s, other, {}} {
		a, _ := store.Union(s, x)
		b, _ := store.Union(x, s)
		answers = append(answers, a, b, store.Less(s, x))
	}
	answers = append(answers, store.Only(s, store.Ids(s)), store.Only(s, ids[:2]))
	for _, a := range answers {
		clear(a.Items)
		for i := range a.Items[len(a.Items):cap(a.Items)] {
			a.Items[:cap(a.Items)][len(a.Items)+i] = api.Item{}
		}
	}
	from := append(store.Ids(s), "x", "x")
	l := from[:4]
	store.Reach(s, l)
	store.Missing(s, l)
	store.Whole(s, l, l)
	if !slices.Equal(backing, append(slices.Clone(items[:4]), spare, spare)) || !same(other, of(items[2:]...)) {
		t.Error("an argument has been changed")
	}
	if ids[2] != "" || ids[3] != "spare" || from[4] != "x" || !slices.Equal(l, store.Ids(s)) {
		t.Error("a list of IDs has been changed")
	}
}
