package tmerge_test

import (
	"slices"
	"strings"
	"testing"

	"graftage/api"
	"graftage/store"
	"graftage/tmerge"
)

// expectFile fails unless File answers as the reference does. It returns what File answers.
func expectFile(t *testing.T, s api.Store, b, o, u api.File, opts api.MergeOptions) (api.Store, api.File, int, api.Errno) {
	t.Helper()
	want, file, kind, code := plainFile(s, b, o, u, opts)
	got, f, k, e := tmerge.File(s, b, o, u, opts)
	if f != file || k != kind || e != code {
		t.Errorf("File(%v, %v, %v, %v) = %v, %d, %d, want %v, %d, %d", b, o, u, opts, f, k, e, file, kind, code)
	}
	if !slices.Equal(got.Items, want.Items) {
		t.Errorf("File(%v, %v, %v, %v) has a store of %d items, want %d", b, o, u, opts, len(got.Items), len(want.Items))
	}
	return got, f, k, e
}

// P21.3: what becomes of three versions, in the words of the document.
func TestFileExamples(t *testing.T) {
	o := options()
	for _, x := range []struct {
		b, o, t string
		want    string
		kind    int
	}{
		// Nothing to merge.
		{"", "", "", "", 0},
		{"a:x", "a:x", "a:x", "a:x", 0},
		{"", "a:x", "a:x", "a:x", 0},
		{"a:x", "a:y", "a:y", "a:y", 0},
		{"a:x", "", "", "", 0},
		{"a:x", "a:x", "a*:y", "a*:y", 0},
		{"a:x", "a:x", "", "", 0},
		{"", "", "a:x", "a:x", 0},
		{"a:x", "a@:y", "a:x", "a@:y", 0},
		{"a:x", "", "a:x", "", 0},
		{"", "a:x", "", "a:x", 0},
		// Deleted by one side.
		{"a:x", "", "a:y", "a:y", 3},
		{"a:x", "a:y", "", "a:y", 3},
		{"a:x", "", "a*:x", "a*:x", 3},
		{"a:x", "a*:x", "", "a*:x", 3},
		{"a@:x", "", "a@:y", "a@:y", 3},
		// Added by both.
		{"", "a:x", "a*:x", "a:x", 2},
		{"", "a*:x", "a:x", "a*:x", 2},
		{"", "a@:x", "a:x", "a@:x", 2},
		{"", "a:ab", "a:cd", "a:<ab=cd>", 2},
		{"", "a*:ab", "a:ac", "a*:a<b=c>", 2},
		{"", "a:abc", "a:adc", "a:a<b=d>c", 2},
		{"", "a:", "a:x", "a:x", 2},
		{"", "a:x", "a:", "a:x", 2},
		{"", "a:0x", "a:x", "a:0x", 2},
		{"", "a:x", "a:0x", "a:x", 2},
		{"", "a@:x", "a:y", "a@:x", 2},
		{"", "a:x", "a@:y", "a:x", 2},
		// The modes.
		{"a:x", "a*:x", "a:y", "a*:y", 0},
		{"a:x", "a:y", "a*:x", "a*:y", 0},
		{"a:x", "a*:x", "a*:y", "a*:y", 0},
		{"a*:x", "a:y", "a:x", "a:y", 0},
		{"a:x", "a*:x", "a@:x", "a*:x", 7},
		{"a:x", "a@:x", "a*:x", "a@:x", 7},
		{"a*:x", "a:y", "a@:x", "a:y", 7},
		{"a*:x", "a:x", "a@:y", "a:y", 7},
		{"a@:x", "a:y", "a*:y", "a:y", 7},
		{"a@:x", "a@:y", "a:x", "a:y", 0},
		// The contents.
		{"a:abcde", "a:Xbcde", "a:abcdY", "a:XbcdY", 0},
		{"a:abcde", "a*:Xbcde", "a:abcdY", "a*:XbcdY", 0},
		{"a:abcde", "a:Xbcde", "a:Ybcde", "a:<X=Y>bcde", 1},
		{"a:abcde", "a*:Xbcde", "a:Ybcde", "a*:<X=Y>bcde", 1},
		{"a:abcde", "a:", "a:Ybcde", "a:<=Ybcde>", 1},
		{"a:0", "a:x", "a:y", "a:x", 8},
		{"a:x", "a:0", "a:y", "a:0", 8},
		{"a:x", "a:y", "a:0", "a:y", 8},
		{"a@:x", "a@:y", "a@:z", "a@:y", 8},
		{"a@:x", "a:y", "a:z", "a:y", 8},
		{"a:x", "a@:y", "a:z", "a@:y", 8},
		{"a:x", "a:y", "a@:z", "a@:y", 8},
		// The smallest kind of several.
		{"a*:abcde", "a:Xbcde", "a@:Ybcde", "a:Xbcde", 7},
		{"a@:abcde", "a:Xbcde", "a*:Ybcde", "a:Xbcde", 7},
		{"a:0", "a*:0x", "a@:0y", "a*:0x", 7},
		// The path.
		{"a:x", "b:x", "c:y", "b:y", 0},
		{"a:x", "b:y", "c:x", "b:y", 0},
		{"a:x", "b:y", "c:y", "b:y", 0},
		{"a:x", "b:x", "c:x", "b:x", 0},
		{"a:x", "", "c:y", "c:y", 3},
		{"a:x", "b:y", "", "b:y", 3},
		{"", "", "c:x", "c:x", 0},
		{"", "b:x", "c:y", "b:<x=y>", 2},
		{"a:abcde", "b:Xbcde", "c:abcdY", "b:XbcdY", 0},
		{"a:abcde", "b:Xbcde", "c:Ybcde", "b:<X=Y>bcde", 1},
		{"a:x", "b:x", "", "", 0},
		{"a:x", "", "c:x", "", 0},
	} {
		b := &box{}
		l := slices.Concat(b.list(x.b), []api.File{{}}, b.list(x.o), []api.File{{}}, b.list(x.t), []api.File{{}})
		var versions []api.File
		for _, s := range []string{x.b, x.o, x.t} {
			versions = append(versions, l[0])
			if s != "" {
				l = l[1:]
			}
			l = l[1:]
		}
		s, f, kind, e := expectFile(t, b.store(), versions[0], versions[1], versions[2], o)
		got := ""
		if f != (api.File{}) {
			got = written(s, f.Path, f.Mode, f.Id)
		}
		if got != x.want || kind != x.kind || e != api.OK {
			t.Errorf("File(%q, %q, %q) = %q, %d, %d, want %q, %d", x.b, x.o, x.t, got, kind, e, x.want, x.kind)
		}
	}
}

// versionsOf returns the absent file and files of some modes and IDs.
func versionsOf(modes []int, ids []string) []api.File {
	l := []api.File{{}}
	for _, mode := range modes {
		for _, id := range ids {
			l = append(l, api.File{Path: "p", Mode: mode, Id: id})
		}
	}
	return l
}

// P21.3: all versions of some modes and contents, with all sides and styles, against the reference.
func TestFiles(t *testing.T) {
	b := &box{}
	texts := []string{b.blob(text(one)), b.blob(text("Xbcdefghij")), b.blob(text("Ybcdefghij")), b.blob(strings.TrimSuffix(text("abcdefghiZ"), "\n")), b.blob("")}
	binary := []string{b.blob("\x00"), b.blob(strings.Repeat("a", 7999) + "\x00"), b.blob(strings.Repeat("a", 8000) + "\x00")}
	long := []string{b.blob(strings.Repeat("\n", api.MaxLines)), b.blob(strings.Repeat("\n", api.MaxLines-1) + "x"), b.blob(strings.Repeat("\n", api.MaxLines) + "x"), b.blob(strings.Repeat("\n", api.MaxLines+1))}
	others := []string{strings.Repeat("0a", 20), strings.Repeat("0b", 20), b.put(api.Tree, "tree", "")}
	s := b.store()
	for _, ids := range [][]string{texts, append(binary, texts[:2]...), append(long, texts[0]), append(others, texts[0], binary[0])} {
		modes := []int{api.ModeFile, api.ModeExec, api.ModeLink}
		if len(ids) == 5 && ids[0] == long[0] {
			modes = modes[:1]
		}
		l := versionsOf(modes, ids)
		for i, f := range l {
			for k, g := range l {
				for j, h := range l {
					o := options()
					o.Side, o.Style = (i+k+j)%4, 1+(i+j)%2
					expectFile(t, s, f, g, h, o)
				}
			}
		}
	}
}

// P21.3: the labels, the styles and the sides of the merged text.
func TestFileText(t *testing.T) {
	b := &box{}
	base, ours, theirs := b.list("a:abc")[0], b.list("a:aXc")[0], b.list("a:aYc")[0]
	for _, x := range []struct {
		o    api.MergeOptions
		want string
		kind int
	}{
		{api.MergeOptions{Least: 1, Ours: "main", Theirs: "topic", Style: 1}, "a\n<<<<<<< main\nX\n=======\nY\n>>>>>>> topic\nc\n", api.ConflictContent},
		{api.MergeOptions{Least: 100, Ours: "topic", Theirs: "main", Style: 2}, "a\n<<<<<<< topic\nX\n|||||||\nb\n=======\nY\n>>>>>>> main\nc\n", api.ConflictContent},
		{api.MergeOptions{Least: 1, Side: api.SideOurs, Ours: "main", Theirs: "topic", Style: 2}, "a\nX\nc\n", 0},
		{api.MergeOptions{Least: 1, Side: api.SideTheirs, Ours: "main", Theirs: "topic", Style: 1}, "a\nY\nc\n", 0},
		{api.MergeOptions{Least: 1, Side: api.SideUnion, Ours: "main", Theirs: "topic", Style: 1}, "a\nX\nY\nc\n", 0},
	} {
		s, f, kind, e := expectFile(t, b.store(), base, ours, theirs, x.o)
		if o, _ := store.Get(s, f.Id); o != (api.Object{Kind: api.Blob, Body: x.want}) || kind != x.kind || e != api.OK {
			t.Errorf("File with %v = %q, %d, %d", x.o, o.Body, kind, e)
		}
	}
}

// P21.3: the first blob that isn't there, or is none, if texts are needed.
func TestFileErrors(t *testing.T) {
	b := &box{}
	tree, missing, lost := b.put(api.Tree, "tree", ""), strings.Repeat("0a", 20), strings.Repeat("0b", 20)
	x, y, binary := b.blob("x\n"), b.blob("y\n"), b.blob("\x00")
	s := b.store()
	at := func(mode int, id string) api.File { return api.File{Path: "a", Mode: mode, Id: id} }
	for _, c := range []struct {
		ids  [3]string
		want api.Errno
	}{
		{[3]string{missing, x, y}, api.ErrMissingObject},
		{[3]string{x, missing, y}, api.ErrMissingObject},
		{[3]string{x, y, missing}, api.ErrMissingObject},
		{[3]string{tree, x, y}, api.ErrKind},
		{[3]string{x, tree, y}, api.ErrKind},
		{[3]string{x, y, tree}, api.ErrKind},
		{[3]string{missing, tree, y}, api.ErrMissingObject},
		{[3]string{tree, missing, y}, api.ErrKind},
		{[3]string{x, tree, missing}, api.ErrKind},
		{[3]string{x, missing, tree}, api.ErrMissingObject},
		{[3]string{tree, x, missing}, api.ErrKind},
		{[3]string{binary, x, missing}, api.ErrMissingObject},
		{[3]string{binary, tree, y}, api.ErrKind},
		{[3]string{"", missing, y}, api.ErrMissingObject},
		{[3]string{"", x, tree}, api.ErrKind},
		{[3]string{"", tree, missing}, api.ErrKind},
		{[3]string{"", binary, missing}, api.ErrMissingObject},
		// The contents of two versions are the same.
		{[3]string{missing, missing, tree}, api.OK},
		{[3]string{missing, tree, missing}, api.OK},
		{[3]string{tree, missing, missing}, api.OK},
		{[3]string{"", missing, missing}, api.OK},
		{[3]string{missing, tree, ""}, api.OK},
		{[3]string{missing, "", tree}, api.OK},
	} {
		for _, modes := range [][3]int{{1, 1, 1}, {1, 2, 2}, {2, 1, 1}, {3, 1, 1}, {1, 3, 1}, {1, 1, 3}, {3, 3, 3}, {2, 1, 3}} {
			var l []api.File
			hasLink := false
			for i, id := range c.ids {
				f := api.File{}
				if id != "" {
					f = at(modes[i], id)
					hasLink = hasLink || modes[i] == api.ModeLink
				}
				l = append(l, f)
			}
			want := c.want
			if hasLink {
				want = api.OK
			}
			if _, _, _, e := expectFile(t, s, l[0], l[1], l[2], options()); e != want {
				t.Errorf("File(%v) = %d, want %d", l, e, want)
			}
		}
	}
	invalid := options()
	invalid.Least = 101
	if _, _, _, e := expectFile(t, s, at(1, missing), at(1, lost), at(1, tree), invalid); e != api.ErrInvalid {
		t.Errorf("File = %d", e)
	}
}

// P21.3: the merged text may be too long, or the store full.
func TestFileLimits(t *testing.T) {
	b := &box{}
	half := strings.Repeat("x", api.MaxBytes/2-20)
	file := func(text string) api.File { return api.File{Path: "a", Mode: api.ModeFile, Id: b.blob(text)} }
	base, ours, theirs, more := file("b"), file(half+"o"), file(half+"t"), file(half+half[:20]+"t")
	o := options()
	if _, f, kind, e := expectFile(t, b.store(), base, ours, theirs, o); e != api.OK || kind != api.ConflictContent || f.Path != "a" {
		t.Errorf("File = %v, %d, %d", f, kind, e)
	}
	if _, _, _, e := expectFile(t, b.store(), base, ours, more, o); e != api.ErrTooLarge {
		t.Errorf("File = %d", e)
	}
	o.Side = api.SideOurs
	if s, f, kind, e := expectFile(t, b.store(), base, ours, more, o); e != api.OK || kind != 0 || f != ours || len(s.Items) != len(b.items) {
		t.Errorf("File = %v, %d, %d", f, kind, e)
	}
}
