package commit_test

import (
	"slices"
	"strings"
	"testing"

	"graftage/api"
	"graftage/commit"
	"graftage/tree"
)

// expectLinks fails unless Links and Whole answer just this.
func expectLinks(t *testing.T, o api.Object, want []string, code api.Errno) {
	t.Helper()
	if got, e := commit.Links(o); !slices.Equal(got, want) || e != code {
		t.Errorf("Links({%d %.200q}) = %v, %d, want %v, %d", o.Kind, o.Body, got, e, want, code)
	}
	if e := commit.Whole(o); e != code {
		t.Errorf("Whole({%d %.200q}) = %d, want %d", o.Kind, o.Body, e, code)
	}
}

// treeBody returns the body of a tree of files, sorted by name, with the given IDs.
func treeBody(t *testing.T, ids ...string) string {
	t.Helper()
	var l []api.Entry
	for i, id := range ids {
		l = append(l, api.Entry{Mode: 1 + i%4, Name: "n" + string(rune('a'+i)), Id: id})
	}
	body, e := tree.Body(l)
	if e != api.OK {
		t.Fatalf("tree.Body(%v) = %d", l, e)
	}
	return body
}

// P16.7, P16.8: a blob is well formed whatever it holds, and refers to nothing.
func TestBlob(t *testing.T) {
	full := strings.Repeat("x", api.MaxBytes)
	for _, body := range []string{"", "a", "\x00", plainBody(simple()), plainTagBody(simpleTag()), treeBody(t, id(1)), full} {
		expectLinks(t, api.Object{Kind: api.Blob, Body: body}, nil, api.OK)
	}
}

// P16.7: the errors of object.Bytes, which go ahead of those of parsing.
func TestWhole(t *testing.T) {
	long := strings.Repeat("x", api.MaxBytes+1)
	for _, kind := range strange {
		for _, body := range []string{"", "a", long, plainBody(simple())} {
			expectLinks(t, api.Object{Kind: kind, Body: body}, nil, api.ErrKind)
		}
	}
	for kind := range words {
		expectLinks(t, api.Object{Kind: kind, Body: long}, nil, api.ErrTooLarge)
	}
	expectLinks(t, api.Object{Kind: api.Commits, Body: plainBody(simple()) + strings.Repeat("\x00", api.MaxBytes)}, nil, api.ErrTooLarge)
}

// P16.7, P16.8: each kind's own errors of parsing; the body of one kind is none of another.
func TestBroken(t *testing.T) {
	full := strings.Repeat("x", api.MaxText+1)
	c, g, entries := plainBody(simple()), plainTagBody(simpleTag()), treeBody(t, id(1), id(2))
	for _, x := range []struct {
		kind int
		body string
		want api.Errno
	}{
		{api.Tree, c, api.ErrSyntax},
		{api.Tree, g, api.ErrSyntax},
		{api.Tree, "x", api.ErrSyntax},
		{api.Tree, entries + "x", api.ErrSyntax},
		{api.Tree, entries[1:], api.ErrSyntax},
		{api.Tree, entries + "1", api.ErrTruncated},
		{api.Tree, entries[:len(entries)-1], api.ErrTruncated},
		{api.Tree, entries + entries, api.ErrUnsorted},
		{api.Tree, "40000 \x00" + full[:20], api.ErrInvalid},
		{api.Tree, "100644 a\x00" + full[:20] + "40000 a\x00" + full[:20], api.ErrDuplicate},
		{api.Tree, strings.Repeat("40000 a\x00"+full[:20], api.MaxEntries+1), api.ErrTooLarge},
		{api.Commits, "", api.ErrSyntax},
		{api.Commits, g, api.ErrSyntax},
		{api.Commits, entries, api.ErrSyntax},
		{api.Commits, c[1:], api.ErrSyntax},
		{api.Commits, c + "\x00", api.ErrInvalid},
		{api.Commits, c + full, api.ErrTooLarge},
		{api.Commits, strings.ReplaceAll(c, id(3), id(2)), api.ErrDuplicate},
		{api.Tags, "", api.ErrSyntax},
		{api.Tags, c, api.ErrSyntax},
		{api.Tags, entries, api.ErrSyntax},
		{api.Tags, g[1:], api.ErrSyntax},
		{api.Tags, g + "\x00", api.ErrInvalid},
		{api.Tags, g + full, api.ErrTooLarge},
	} {
		expectLinks(t, api.Object{Kind: x.kind, Body: x.body}, nil, x.want)
	}
}

// P16.8: the links of a tree, in the order of its entries; an ID that occurs again is listed where it occurs first.
func TestTreeLinks(t *testing.T) {
	expectLinks(t, api.Object{Kind: api.Tree}, nil, api.OK)
	some := []string{id(3), id(1), id(2)}
	lists := [][]string{nil}
	for start, size := 0, 0; size < 5; size++ {
		end := len(lists)
		for _, l := range lists[start:end] {
			for _, id := range some {
				lists = append(lists, append(slices.Clone(l), id))
			}
		}
		start = end
	}
	for _, l := range lists {
		var want []string
		for i, id := range l {
			if !slices.Contains(l[:i], id) {
				want = append(want, id)
			}
		}
		expectLinks(t, api.Object{Kind: api.Tree, Body: treeBody(t, l...)}, want, api.OK)
	}
}

// P16.8, P16.11: the links of a commit are its tree and its parents, in their order, and those of a tag its object.
func TestLinks(t *testing.T) {
	for n := range api.MaxParents + 1 {
		c := simple()
		c.Parents = ids(n)
		slices.Reverse(c.Parents)
		expectLinks(t, api.Object{Kind: api.Commits, Body: plainBody(c)}, append([]string{c.Tree}, c.Parents...), api.OK)
		for at := range n { // a parent with the ID of the tree
			c.Tree = c.Parents[at]
			want := append([]string{c.Tree}, c.Parents[:at]...)
			want = append(want, c.Parents[at+1:]...)
			expectLinks(t, api.Object{Kind: api.Commits, Body: plainBody(c)}, want, api.OK)
		}
	}
	for kind := range words {
		g := simpleTag()
		g.Kind, g.Text = kind, "object "+id(7)+"\n"
		expectLinks(t, api.Object{Kind: api.Tags, Body: plainTagBody(g)}, []string{id(1)}, api.OK)
	}
	c := simple()
	c.Text = "parent " + id(9) + "\n"
	expectLinks(t, api.Object{Kind: api.Commits, Body: plainBody(c)}, []string{id(1), id(2), id(3)}, api.OK)
}
