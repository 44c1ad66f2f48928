package lineage_test

import (
	"fmt"
	"slices"
	"strings"
	"testing"

	"graftage/api"
	"graftage/lineage"
	"graftage/object"
	"graftage/walk"
)

// grow adds a commit to a store, and returns its ID.
func grow(s *api.Store, time int, parents ...string) string {
	body := "tree " + strings.Repeat("0e", 20) + "\n"
	for _, id := range parents {
		body += "parent " + id + "\n"
	}
	o := api.Object{Kind: api.Commits, Body: body + fmt.Sprintf("author a <a@b> 5 +0000\ncommitter a <a@b> %d +0000\n\n%d\n", time, len(s.Items))}
	s.Items = append(s.Items, api.Item{Id: object.Id(o), Kind: o.Kind, Body: o.Body})
	slices.SortFunc(s.Items, func(a, b api.Item) int { return strings.Compare(a.Id, b.Id) })
	return object.Id(o)
}

// P23.1, P24.1: the ancestors in the order of walk.Order, with the parents that walk.Parents tells, and the errors of walk.
func TestOf(t *testing.T) {
	var s api.Store
	seed := 1
	next := func(n int) int {
		seed = seed * 48271 % 2147483647
		return seed % n
	}
	missing := strings.Repeat("0a", 20)
	ids := []string{missing}
	for n := range 60 {
		var parents []string
		for range next(4) {
			parents = append(parents, ids[min(len(ids)-1, max(min(1, next(40)), len(ids)-1-next(5)))])
		}
		slices.Sort(parents)
		ids = append(ids, grow(&s, next(5), slices.Compact(parents)...))
		for range 10 {
			v := api.View{Store: s, Cuts: []string{ids[next(len(ids))], "z", ids[next(len(ids))]}[:next(4)]}
			from := []string{ids[n+1], ids[next(len(ids))], ids[n+1]}[:next(4)]
			want, code := walk.Order(v, from)
			p, e := lineage.Of(v, from)
			if !slices.Equal(p.Ids, want) || len(p.Places) != len(want) || len(p.Parents) != len(want) || e != code {
				t.Fatalf("Of = %v, %d, want %q, %d", p, e, want, code)
			}
			for i, id := range want {
				var l []string
				for _, k := range p.Parents[i] {
					l = append(l, p.Ids[k])
				}
				if parents, _ := walk.Parents(v, id); p.Places[id] != i || !slices.Equal(l, parents) {
					t.Errorf("%q has place %d and parents %q, want %d and %q", id, p.Places[id], l, i, parents)
				}
			}
		}
	}
}
