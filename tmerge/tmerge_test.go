package tmerge_test

import (
	"fmt"
	"slices"
	"strings"
	"testing"
	"time"

	"graftage/api"
	"graftage/store"
	"graftage/tmerge"
)

// The lines of the long texts, each of which is similar to itself with a few changes, but not to the other one.
const (
	one = "abcdefghij"
	two = "klmnopqrst"
)

// The marks of the modes, behind paths.
var modeMarks = map[string]int{"": api.ModeFile, "*": api.ModeExec, "@": api.ModeLink}

// The signs that stand for marker lines, with the labels of options.
var markers = map[string]string{"<": "<<<<<<< O\n", "|": "|||||||\n", "=": "=======\n", ">": ">>>>>>> T\n", "0": "\x00\n"}

// text returns the text of the lines that stand for it: each letter for itself, or for a marker line.
func text(letters string) string {
	s := ""
	for _, letter := range letters {
		if line, ok := markers[string(letter)]; ok {
			s += line
		} else {
			s += string(letter) + "\n"
		}
	}
	return s
}

// letters returns what stands for a text.
func letters(text string) string {
	s := ""
	for line := range strings.Lines(text) {
		letter := line[:1]
		for sign, marker := range markers {
			if line == marker {
				letter = sign
			}
		}
		s += letter
	}
	return s
}

// list returns the files that are written as "path:letters", with the mark of the mode behind the path.
func (b *box) list(s string) []api.File {
	var l []api.File
	for _, word := range strings.Fields(s) {
		p, content, _ := strings.Cut(word, ":")
		plain := strings.TrimRight(p, "*@")
		l = append(l, api.File{Path: plain, Mode: modeMarks[p[len(plain):]], Id: b.blob(text(content))})
	}
	return l
}

// written returns what stands for a version of a file.
func written(s api.Store, p string, mode int, id string) string {
	mark := ""
	for m, k := range modeMarks {
		if k == mode {
			mark = m
		}
	}
	o, _ := store.Get(s, id)
	return p + mark + ":" + letters(o.Body)
}

// show writes a result: its files; its records, as "path=kind,other"; and its slots, as "path#stage:letters".
func show(s api.Store, m api.Merged) string {
	var files, notes, slots []string
	for _, f := range m.Files {
		files = append(files, written(s, f.Path, f.Mode, f.Id))
	}
	for _, c := range m.Notes {
		notes = append(notes, strings.TrimSuffix(fmt.Sprintf("%s=%d,%s", c.Path, c.Kind, c.Other), ","))
	}
	for _, x := range m.Slots {
		slots = append(slots, written(s, fmt.Sprintf("%s#%d", x.Path, x.Stage), x.Mode, x.Id))
	}
	return strings.Join(files, " ") + "; " + strings.Join(notes, " ") + "; " + strings.Join(slots, " ")
}

// example is a merge, and what becomes of it.
type example struct{ base, ours, theirs, files, notes, slots string }

// expectExamples fails unless Merge answers just this, and as the reference does.
func expectExamples(t *testing.T, o api.MergeOptions, l ...example) {
	t.Helper()
	for _, x := range l {
		b := &box{}
		base, ours, theirs := b.list(x.base), b.list(x.ours), b.list(x.theirs)
		s, m, e := expectMerge(t, b.store(), base, ours, theirs, o)
		if got, want := show(s, m), x.files+"; "+x.notes+"; "+x.slots; got != want || e != api.OK {
			t.Errorf("Merge(%q, %q, %q) = %q, %d, want %q", x.base, x.ours, x.theirs, got, e, want)
		}
	}
}

// P21.1: the two examples, and merges without renames.
func TestExamples(t *testing.T) {
	expectExamples(t, options(),
		example{"a:" + one, "a:abcdefghiX", "b:" + one, "b:abcdefghiX", "", ""},
		example{"", "a:ab", "a:cd", "a:<ab=cd>", "a=2", "a#2:ab a#3:cd"},
		example{"", "", "", "", "", ""},
		example{"a:x b:y c:z", "a:x b:Y c:z", "a:X b:y c:z", "a:X b:Y c:z", "", ""},
		example{"a:x b:y c:z", "a:x c:z d:d", "a:x b:y e:e", "a:x d:d e:e", "", ""},
		example{"a:x", "", "", "", "", ""},
		example{"a:x", "a*:x", "a:y", "a*:y", "", ""},
		example{"a:" + one, "a:Xbcdefghij", "a*:abcdefghiX", "a*:XbcdefghiX", "", ""},
		example{"a:" + one, "a:Xbcdefghij", "a:Ybcdefghij", "a:<X=Y>bcdefghij", "a=1", "a#1:" + one + " a#2:Xbcdefghij a#3:Ybcdefghij"},
		example{"a:x", "", "a:y", "a:y", "a=3", "a#1:x a#3:y"},
		example{"a:x", "a*:x", "", "a*:x", "a=3", "a#1:x a#2*:x"},
		example{"a:x", "a*:x", "a@:x", "a*:x", "a=7", "a#1:x a#2*:x a#3@:x"},
		example{"a:0", "a:0a", "a:0b", "a:0a", "a=8", "a#1:0 a#2:0a a#3:0b"},
		example{"z:x", "a:a b/c:b z:X", "a:b b/c:b d:d z:Y", "a:<a=b> b/c:b d:d z:<X=Y>", "a=2 z=1", "a#2:a a#3:b z#1:x z#2:X z#3:Y"},
	)
	o := options()
	o.Style = 2
	expectExamples(t, o,
		example{"a:" + one, "a:Xbcdefghij", "a:Ybcdefghij", "a:<X|a=Y>bcdefghij", "a=1", "a#1:" + one + " a#2:Xbcdefghij a#3:Ybcdefghij"},
		example{"", "a:ab", "a:cd", "a:<ab|=cd>", "a=2", "a#2:ab a#3:cd"},
	)
}

// P21.1: where a side is preferred, contents make no conflicts, but all else does.
func TestSides(t *testing.T) {
	for side, c := range map[int][3]string{api.SideOurs: {"X", "X", "ab"}, api.SideTheirs: {"Y", "Y", "cd"}, api.SideUnion: {"XY", "XY", "abcd"}} {
		o := options()
		o.Side = side
		expectExamples(t, o,
			example{"a:" + one, "a:Xbcdefghij", "a:Ybcdefghij", "a:" + c[0] + "bcdefghij", "", ""},
			example{"a:" + one, "a:Xbcdefghij", "b*:Ybcdefghij", "b*:" + c[1] + "bcdefghij", "", ""},
			example{"", "a:ab", "a:cd", "a:" + c[2], "a=2", "a#2:ab a#3:cd"},
			example{"a:" + one, "a*:Xbcdefghij", "a@:" + one, "a*:Xbcdefghij", "a=7", "a#1:" + one + " a#2*:Xbcdefghij a#3@:" + one},
			example{"a:0", "a:0a", "a:0b", "a:0a", "a=8", "a#1:0 a#2:0a a#3:0b"},
			example{"a:x", "", "a:y", "a:y", "a=3", "a#1:x a#3:y"},
		)
	}
}

// P21.1, step 1: a file that one side renamed is merged at its new path, with the other side's changes.
func TestRenames(t *testing.T) {
	expectExamples(t, options(),
		example{"a:" + one, "b:" + one, "a:abcdefghiX", "b:abcdefghiX", "", ""},
		example{"a:" + one, "b:Xbcdefghij", "a:abcdefghiX", "b:XbcdefghiX", "", ""},
		example{"a:" + one, "a:abcdefghiX", "b:Xbcdefghij", "b:XbcdefghiX", "", ""},
		example{"a:" + one, "a*:" + one, "d/b:" + one, "d/b*:" + one, "", ""},
		example{"a@:" + one, "a@:" + two, "b@:" + one, "b@:" + two, "", ""},
		example{"a:" + one, "b:Xbcdefghij", "a:Ybcdefghij", "b:<X=Y>bcdefghij", "b=1", "b#1:" + one + " b#2:Xbcdefghij b#3:Ybcdefghij"},
		example{"a:" + one, "b:" + one, "a:" + one, "b:" + one, "", ""},
		example{"a:" + one + " b:" + two, "c:" + one + " d:" + two, "a:abcdefghiX b:klmnopqrsX", "c:abcdefghiX d:klmnopqrsX", "", ""},
		example{"a:" + one + " b:" + two, "a:abcdefghiX d:" + two, "b:klmnopqrsX c:" + one, "c:abcdefghiX d:klmnopqrsX", "", ""},
		example{"d/a:" + one + " d/b:" + two, "d/a:abcdefghiX d/b:" + two, "d:" + one + " e:" + two, "d:abcdefghiX e:" + two, "", ""},
		// Both sides, to the same path.
		example{"a:" + one, "b:Xbcdefghij", "b:abcdefghiX", "b:XbcdefghiX", "", ""},
		example{"a:" + one, "b:Xbcdefghij", "b:Ybcdefghij", "b:<X=Y>bcdefghij", "b=1", "b#1:" + one + " b#2:Xbcdefghij b#3:Ybcdefghij"},
		example{"a:" + one, "b*:" + one, "b:abcdefghiX", "b*:abcdefghiX", "", ""},
	)
	// The threshold: five of ten lines are the same.
	half := example{base: "a:" + one, ours: "b:abcdeABCDE", theirs: "a:abcdefghiX"}
	half.files, half.notes, half.slots = "b:abcde<ABCDE=fghiX>", "b=1", "b#1:"+one+" b#2:abcdeABCDE b#3:abcdefghiX"
	expectExamples(t, options(), half)
	o := options()
	o.Least = 51
	half.files, half.notes, half.slots = "a:abcdefghiX b:abcdeABCDE", "a=3", "a#1:"+one+" a#3:abcdefghiX"
	expectExamples(t, o, half)
}

// P21.1, step 1: where a rename can't be followed, there is a record at the new path.
func TestRenameConflicts(t *testing.T) {
	expectExamples(t, options(),
		// The other side has a file at the new path.
		example{"a:" + one, "b:" + one, "a:" + one + " b:z", "b:<" + one + "=z>", "b=5", "b#2:" + one + " b#3:z"},
		example{"a:" + one, "b:" + one, "a:abcdefghiX b:z", "a:abcdefghiX b:<" + one + "=z>", "a=3 b=5", "a#1:" + one + " a#3:abcdefghiX b#2:" + one + " b#3:z"},
		example{"a:" + one, "a:abcdefghiX b:z", "b:" + one, "a:abcdefghiX b:<z=" + one + ">", "a=3 b=5", "a#1:" + one + " a#2:abcdefghiX b#2:z b#3:" + one},
		// Both sides rename files to one path, and keep each other's.
		example{"a:" + one + " b:" + two, "b:" + two + " c:" + one, "a:" + one + " c:" + two, "c:<" + one + "=" + two + ">", "c=5", "c#2:" + one + " c#3:" + two},
		// The other side deleted the file.
		example{"a:" + one, "b:" + one, "", "b:" + one, "b=3", "b#1:" + one + " b#2:" + one},
		example{"a:" + one, "", "b:" + one, "b:" + one, "b=3", "b#1:" + one + " b#3:" + one},
		example{"a:" + one, "b*:abcdefghiX", "", "b*:abcdefghiX", "b=3", "b#1:" + one + " b#2*:abcdefghiX"},
		// It deleted the file, and has one of its own at the new path.
		example{"a:" + one, "b:" + one, "b:z", "b:z", "b=3", "b#1:" + one + " b#2:" + one + " b#3:z"},
		example{"a:" + one, "b:z", "b:" + one, "b:z", "b=3", "b#1:" + one + " b#2:z b#3:" + one},
		example{"a:" + one, "b:abcdefghiX", "b:z", "b:<abcdefghiX=z>", "b=3", "b#1:" + one + " b#2:abcdefghiX b#3:z"},
		// Each side renames one file and deletes the other one: the first one's base is at the new path.
		example{"a:" + one + " b:" + two, "c:" + two, "c:" + one, "c:" + two, "c=3", "c#1:" + one + " c#2:" + two + " c#3:" + one},
		example{"a:" + one + " b:" + two, "c:" + one, "c:" + two, "c:" + two, "c=3", "c#1:" + one + " c#2:" + one + " c#3:" + two},
		// One side deletes both: the first record stays.
		example{"a:" + one + " b:" + two, "b:" + two + " c:" + one, "c:" + two, "c:" + two, "c=3", "c#1:" + one + " c#2:" + one + " c#3:" + two},
		// Both sides rename it, to different paths.
		example{"a:" + one, "b:" + one, "c:" + one, "b:" + one + " c:" + one, "a=4,b b=4,a c=4,a", "a#1:" + one + " b#2:" + one + " c#3:" + one},
		example{"a:" + one, "c:" + one, "b:" + one, "b:" + one + " c:" + one, "a=4,b b=4,a c=4,a", "a#1:" + one + " b#3:" + one + " c#2:" + one},
		example{"d:" + one, "c:abcdefghiX", "b*:" + one, "b*:" + one + " c:abcdefghiX", "b=4,d c=4,d d=4,b", "b#3*:" + one + " c#2:abcdefghiX d#1:" + one},
		example{"a:" + one, "b:" + one + " c:z", "c:" + one, "b:" + one + " c:<z=" + one + ">", "a=4,b b=4,a c=4,a", "a#1:" + one + " b#2:" + one + " c#2:z c#3:" + one},
		// Of several records, the first one stays, in the order of the old paths.
		example{"a:" + one + " b:" + two, "c:" + one + " d:" + two, "b:" + two + " d:" + one, "c:" + one + " d:<" + two + "=" + one + ">", "a=4,c c=4,a d=4,a", "a#1:" + one + " c#2:" + one + " d#2:" + two + " d#3:" + one},
		example{"a:" + two + " b:" + one, "c:" + one + " d:" + two, "a:" + two + " d:" + one, "c:" + one + " d:<" + two + "=" + one + ">", "b=4,c c=4,b d=5", "b#1:" + one + " c#2:" + one + " d#2:" + two + " d#3:" + one},
		example{"a:" + one + " b:" + two, "c:" + one + " d:" + two, "c:" + two + " d:" + one, "c:<" + one + "=" + two + "> d:<" + two + "=" + one + ">", "a=4,c b=4,c c=4,a d=4,a", "a#1:" + one + " b#1:" + two + " c#2:" + one + " c#3:" + two + " d#2:" + two + " d#3:" + one},
	)
}

// P21.1, step 3: a file gives way to a directory.
func TestDirectories(t *testing.T) {
	full, over := strings.Repeat("n", api.MaxName-5), strings.Repeat("n", api.MaxName-4)
	theirFull, theirOver := strings.Repeat("n", api.MaxName-7), strings.Repeat("n", api.MaxName-6)
	expectExamples(t, options(),
		example{"", "a:x", "a/b:y", "a/b:y a~ours:x", "a~ours=6,a", "a~ours#2:x"},
		example{"", "a/b:y", "a:x", "a/b:y a~theirs:x", "a~theirs=6,a", "a~theirs#3:x"},
		example{"", "d/a:x", "d/a/b/c:y", "d/a/b/c:y d/a~ours:x", "d/a~ours=6,d/a", "d/a~ours#2:x"},
		example{"", "a/b:x c/d:x", "a/b/c:y c:y", "a/b/c:y a/b~ours:x c/d:x c~theirs:y", "a/b~ours=6,a/b c~theirs=6,c", "a/b~ours#2:x c~theirs#3:y"},
		example{"", "a:x a-b:x", "a/b:y", "a-b:x a/b:y a~ours:x", "a~ours=6,a", "a~ours#2:x"},
		// It keeps the kind of the record that it has.
		example{"a:x", "a:z", "a/b:y", "a/b:y a~ours:z", "a~ours=3,a", "a~ours#1:x a~ours#2:z"},
		example{"a:x", "a/b:y", "a*:x", "a/b:y a~theirs*:x", "a~theirs=3,a", "a~theirs#1:x a~theirs#3*:x"},
		example{"c:" + one, "a:" + one, "a/b:x b:" + one, "a/b:x a~ours:" + one + " b:" + one, "a~ours=4,a b=4,c c=4,a", "a~ours#2:" + one + " b#3:" + one + " c#1:" + one},
		// Ours has it there once its file is moved.
		example{"c:" + one, "a/b:x c:abcdefghiX", "a:" + one, "a/b:x a~ours:abcdefghiX", "a~ours=6,a", "a~ours#1:" + one + " a~ours#2:abcdefghiX a~ours#3:" + one},
		example{"c:" + one, "a/b:x", "a:" + one, "a/b:x a~theirs:" + one, "a~theirs=3,a", "a~theirs#1:" + one + " a~theirs#3:" + one},
		// The new path isn't valid.
		example{"", full + ":x", full + "/b:y", full + "/b:y " + full + "~ours:x", full + "~ours=6," + full, full + "~ours#2:x"},
		example{"", over + ":x", over + "/b:y", over + "/b:y", over + "=6", ""},
		example{"", theirFull + "/b:y", theirFull + ":x", theirFull + "/b:y " + theirFull + "~theirs:x", theirFull + "~theirs=6," + theirFull, theirFull + "~theirs#3:x"},
		example{"", theirOver + "/b:y", theirOver + ":x", theirOver + "/b:y", theirOver + "=6", ""},
		example{over + ":x", over + ":z", over + "/b:y", over + "/b:y", over + "=3", ""},
		example{"c:" + one, over + ":" + one, "b:" + one + " " + over + "/b:y", "b:" + one + " " + over + "/b:y", "b=4,c c=4,b " + over + "=4", "b#3:" + one + " c#1:" + one},
		// The new path is taken, by a file or by a directory.
		example{"", "a:x a~ours:z", "a/b:y", "a/b:y a~ours:z", "a=6", ""},
		example{"", "a:x", "a/b:y a~ours:z", "a/b:y a~ours:z", "a=6", ""},
		example{"", "a:x", "a/b:y a~ours/c:z", "a/b:y a~ours/c:z", "a=6", ""},
		example{"", "a:x", "a/b:y a~ours/c/d:z", "a/b:y a~ours/c/d:z", "a=6", ""},
		example{"", "a:x a~ours:z", "a/b:y a~ours/c:y", "a/b:y a~ours/c:y a~ours~ours:z", "a=6 a~ours~ours=6,a~ours", "a~ours~ours#2:z"},
		example{"", "a:x a~theirs:z", "a/b:y", "a/b:y a~ours:x a~theirs:z", "a~ours=6,a", "a~ours#2:x"},
		example{"", "a/b:y a~theirs:z", "a:x", "a/b:y a~theirs:z", "a=6", ""},
		// The new path has a record already, with a file or without.
		example{"a~ours:x", "a:x a~ours:z", "a/b:y", "a/b:y a~ours:z", "a=6 a~ours=3", "a~ours#1:x a~ours#2:z"},
		example{"a~ours:" + one, "a:x c:" + one, "a/b:y d:" + one, "a/b:y c:" + one + " d:" + one, "a=6 a~ours=4,c c=4,a~ours d=4,a~ours", "a~ours#1:" + one + " c#2:" + one + " d#3:" + one},
		// A file of base alone is no file.
		example{"a~ours:" + one, "a:x", "a/b:y", "a/b:y a~ours:x", "a~ours=6,a", "a~ours#2:x"},
		example{"a/b:x", "a:y", "a/c:z", "a/c:z a~ours:y", "a~ours=6,a", "a~ours#2:y"},
		example{"a/b:x", "a:y", "", "a:y", "", ""},
	)
}

// P21.1: slots that come within each other, or come within files, are left out.
func TestSlots(t *testing.T) {
	expectExamples(t, options(),
		// A slot within a file, and those at the file, since they contain it.
		example{"a/b:" + one, "a:x q:" + one, "a:y r:" + one, "a:<x=y> q:" + one + " r:" + one, "a=2 a/b=4,q q=4,a/b r=4,a/b", "q#2:" + one + " r#3:" + one},
		example{"a/b:" + one, "a:x q:" + one, "r:" + one, "a:x q:" + one + " r:" + one, "a/b=4,q q=4,a/b r=4,a/b", "q#2:" + one + " r#3:" + one},
		example{"a/b/c:" + one, "a:x q:" + one, "r:" + one, "a:x q:" + one + " r:" + one, "a/b/c=4,q q=4,a/b/c r=4,a/b/c", "q#2:" + one + " r#3:" + one},
		// A slot that contains a file.
		example{"a:" + one, "a/b:x q:" + one, "r:" + one, "a/b:x q:" + one + " r:" + one, "a=4,q q=4,a r=4,a", "q#2:" + one + " r#3:" + one},
		example{"a:" + one, "q:" + one, "a/b/c:x r:" + one, "a/b/c:x q:" + one + " r:" + one, "a=4,q q=4,a r=4,a", "q#2:" + one + " r#3:" + one},
		// One that only seems to.
		example{"a:" + one, "ab/c:x q:" + one, "r:" + one, "ab/c:x q:" + one + " r:" + one, "a=4,q q=4,a r=4,a", "a#1:" + one + " q#2:" + one + " r#3:" + one},
		example{"b/ab:" + one, "b/a:x q:" + one, "r:" + one, "b/a:x q:" + one + " r:" + one, "b/ab=4,q q=4,b/ab r=4,b/ab", "b/ab#1:" + one + " q#2:" + one + " r#3:" + one},
	)
}

// P21.1: the errors, in their order.
func TestErrors(t *testing.T) {
	b := &box{}
	good := b.list("a:x")
	bad := map[api.Errno][]api.File{
		api.ErrBadPath:      {{Path: "a//b", Mode: 1, Id: good[0].Id}},
		api.ErrInvalid:      {{Path: "a", Mode: 4, Id: good[0].Id}},
		api.ErrUnsorted:     {good[0], good[0]},
		api.ErrPathConflict: b.list("a:x a/b:x"),
		api.ErrTooLarge:     make([]api.File, api.MaxFiles+1),
	}
	expect := func(base, ours, theirs []api.File, o api.MergeOptions, want api.Errno) {
		t.Helper()
		if _, _, e := expectMerge(t, b.store(), base, ours, theirs, o); e != want {
			t.Errorf("Merge(%.200v, %.200v, %.200v, %v) = %d, want %d", base, ours, theirs, o, e, want)
		}
	}
	broken := options()
	broken.Least = 0
	for e, l := range bad {
		expect(l, good, good, options(), e)
		expect(good, l, good, options(), e)
		expect(good, good, l, options(), e)
		expect(l, l, l, broken, api.ErrInvalid)
		for _, k := range bad {
			expect(l, k, good, options(), e)
			expect(l, good, k, options(), e)
			expect(good, l, k, options(), e)
		}
	}
	// Renames are looked for ahead of merging files, those of ours first.
	tree, missing := b.put(api.Tree, "tree", ""), strings.Repeat("0a", 20)
	at := func(p, id string) api.File { return api.File{Path: p, Mode: api.ModeFile, Id: id} }
	x, y := b.blob("x\n"), b.blob("y\n")
	base := []api.File{at("a", x), at("b", x)}
	expect(base, []api.File{at("b", x), at("c", missing)}, []api.File{at("b", x), at("c", tree)}, options(), api.ErrMissingObject)
	expect(base, []api.File{at("b", x), at("c", tree)}, []api.File{at("b", x), at("c", missing)}, options(), api.ErrKind)
	expect(base, base, []api.File{at("b", x), at("c", missing)}, options(), api.ErrMissingObject)
	expect(base, base, []api.File{at("b", x), at("c", tree)}, options(), api.ErrKind)
	expect([]api.File{at("a", x), at("b", y)}, []api.File{at("a", missing), at("c", y)}, []api.File{at("a", y), at("c", tree)}, options(), api.ErrKind)
	// Files are merged path by path.
	expect(nil, []api.File{at("a", x), at("b", missing), at("c", tree)}, []api.File{at("a", y), at("b", y), at("c", y)}, options(), api.ErrMissingObject)
	expect(nil, []api.File{at("a", x), at("b", tree), at("c", missing)}, []api.File{at("a", y), at("b", y), at("c", y)}, options(), api.ErrKind)
	// What isn't needed needn't be there.
	expect(nil, []api.File{at("a", missing), at("b", x)}, []api.File{at("a", missing), at("b", x), at("c", tree)}, options(), api.OK)
	expect([]api.File{at("a", missing)}, []api.File{at("a", tree)}, nil, options(), api.OK)
}

// P21.1: the limits of the options.
func TestOptions(t *testing.T) {
	name := strings.Repeat("o", api.MaxName)
	for _, c := range []struct {
		change func(o *api.MergeOptions, n int)
		n      []int
		good   []bool
	}{
		{func(o *api.MergeOptions, n int) { o.Least = n }, []int{-1, 0, 1, 2, 50, 99, 100, 101, 1 << 40}, []bool{false, false, true, true, true, true, true, false, false}},
		{func(o *api.MergeOptions, n int) { o.Side = n }, []int{-1, 0, 1, 2, 3, 4}, []bool{false, true, true, true, true, false}},
		{func(o *api.MergeOptions, n int) { o.Style = n }, []int{-1, 0, 1, 2, 3}, []bool{false, false, true, true, false}},
		{func(o *api.MergeOptions, n int) {
			o.Ours = []string{"", "o", name, name + "o", "a\n", "\n", "a\nb", "a\r\x00 \xff"}[n]
		}, []int{0, 1, 2, 3, 4, 5, 6, 7}, []bool{false, true, true, false, false, false, false, true}},
		{func(o *api.MergeOptions, n int) {
			o.Theirs = []string{"", "o", name, name + "o", "a\n", "\n", "a\nb", "a\r\x00 \xff"}[n]
		}, []int{0, 1, 2, 3, 4, 5, 6, 7}, []bool{false, true, true, false, false, false, false, true}},
	} {
		for i, n := range c.n {
			o := options()
			c.change(&o, n)
			want := api.ErrInvalid
			if c.good[i] {
				want = api.OK
			}
			b := &box{}
			ours, theirs := b.list("a:x"), b.list("a:y")
			if _, _, e := expectMerge(t, b.store(), nil, ours, theirs, o); e != want {
				t.Errorf("Merge with %v = %d, want %d", o, e, want)
			}
			expectFile(t, b.store(), api.File{}, ours[0], theirs[0], o)
			if _, _, _, e := tmerge.File(b.store(), api.File{}, api.File{}, api.File{}, o); e != want {
				t.Errorf("File with %v = %d, want %d", o, e, want)
			}
		}
	}
}

// P21.1: a result has at most MaxFiles files, files that were removed not counted.
func TestLimit(t *testing.T) {
	b := &box{}
	x, y := b.blob("x\n"), b.blob("y\n")
	name := strings.Repeat("a", api.MaxName)
	var l []api.File
	for i := range api.MaxFiles - 1 {
		l = append(l, api.File{Path: fmt.Sprintf("f%05d", i), Mode: api.ModeFile, Id: x})
	}
	file := func(p, id string) []api.File { return []api.File{{Path: p, Mode: api.ModeFile, Id: id}} }
	for _, c := range []struct {
		base, ours, theirs []api.File
		want               api.Errno
	}{
		{nil, slices.Concat(file("a", x), l), nil, api.OK},
		{nil, l, file("a", x), api.OK},
		{nil, slices.Concat(file("a", x), l), file("a", y), api.OK},
		{nil, slices.Concat(file("a", x), l), file("b", x), api.ErrTooLarge},
		{nil, file("b", x), slices.Concat(file("a", x), l), api.ErrTooLarge},
		{nil, slices.Concat(file("a", x), l), file("a/b", x), api.ErrTooLarge},
		{nil, slices.Concat(file(name, x), l), file(name+"/b", x), api.OK},
		{nil, slices.Concat(file("a", strings.Repeat("0a", 20)), l), slices.Concat(file("a", y), file("b", x)), api.ErrMissingObject},
	} {
		got, m, e := tmerge.Merge(b.store(), c.base, c.ours, c.theirs, options())
		if e != c.want || e == api.OK && len(m.Files) != api.MaxFiles || e != api.OK && (len(got.Items) > 0 || !sameMerged(m, api.Merged{})) {
			t.Errorf("Merge of %d and %d files = %d files, %d, want %d", len(c.ours), len(c.theirs), len(m.Files), e, c.want)
		}
	}
}

// filled returns a store of some items and of as many blobs as there may be but for room.
func filled(items []api.Item, room int) api.Store {
	l := slices.Clone(items)
	for i := 0; len(l) < api.MaxItems-room; i++ {
		l = append(l, api.Item{Id: fmt.Sprintf("%040x", i), Kind: api.Blob})
	}
	slices.SortFunc(l, func(a, b api.Item) int { return strings.Compare(a.Id, b.Id) })
	return api.Store{Items: l}
}

// P21.1: blobs that were created count towards what the store may have, each of them once.
func TestStore(t *testing.T) {
	b := &box{}
	base, ours, theirs := b.list("a:"+one+" b:"+two), b.list("a:Xbcdefghij b:Xlmnopqrst"), b.list("a:Ybcdefghij b:Ylmnopqrst")
	items := slices.Clone(b.items)
	made, other := b.put(api.Blob, "blob", text("<X=Y>bcdefghij")), b.put(api.Blob, "blob", text("<X=Y>lmnopqrst"))
	known := func(ids ...string) []api.Item {
		return slices.DeleteFunc(slices.Clone(b.items), func(x api.Item) bool {
			return (x.Id == made || x.Id == other) && !slices.Contains(ids, x.Id)
		})
	}
	file := func(p, id string) api.File { return api.File{Path: p, Mode: api.ModeFile, Id: id} }
	twice := func(l []api.File) []api.File { return append(slices.Clone(l), file("c", l[0].Id), file("d", l[1].Id)) }
	lost := func(l []api.File) []api.File { return append(slices.Clone(l), file("e", strings.Repeat("0a", 20))) }
	wrong := func(l []api.File) []api.File { return append(slices.Clone(l), file("e", made)) }
	for _, x := range []struct {
		items []api.Item
		room  int
		want  api.Errno
	}{
		{items, 0, api.ErrTooLarge}, {items, 1, api.ErrTooLarge}, {items, 2, api.OK}, {items, 3, api.OK},
		{known(made), 0, api.ErrTooLarge}, {known(made), 1, api.OK}, {known(other), 0, api.ErrTooLarge}, {known(other), 1, api.OK},
		{known(made, other), 0, api.OK},
	} {
		s := filled(x.items, x.room)
		for _, lists := range [][3][]api.File{{base, ours, theirs}, {twice(base), twice(ours), twice(theirs)}} {
			got, _, e := expectMerge(t, s, lists[0], lists[1], lists[2], options())
			if e != x.want || e == api.OK && !store.Has(got, other) {
				t.Errorf("Merge with room for %d = %d items, %d, want %d", x.room, len(got.Items), e, x.want)
			}
		}
		// The error is told ahead of those of later paths.
		want := x.want
		if want == api.OK {
			want = api.ErrMissingObject
		}
		if _, _, e := expectMerge(t, s, base, lost(ours), wrong(theirs), options()); e != want {
			t.Errorf("Merge with room for %d = %d, want %d", x.room, e, want)
		}
	}
	// A file has the ID of a blob that was created ahead of it, or isn't yet.
	s := api.Store{Items: items}
	expectMerge(t, s, base[:1], wrong(ours[:1]), append(slices.Clone(theirs[:1]), file("e", ours[1].Id)), options())
	expectMerge(t, s, nil, []api.File{file("0", made), ours[0]}, []api.File{file("0", ours[1].Id), theirs[0]}, options())
	// Another object has the ID of what is merged.
	for _, forged := range []api.Item{{Id: made, Kind: api.Blob, Body: "?"}, {Id: made, Kind: api.Tree, Body: text("<X=Y>bcdefghij")}} {
		s := filled(append(slices.Clone(items), forged), api.MaxItems-len(items)-1)
		for _, l := range [][2][]api.File{{ours, theirs}, {lost(ours), wrong(theirs)}} {
			if _, _, e := expectMerge(t, s, base, l[0], l[1], options()); e != api.ErrCollision {
				t.Errorf("Merge into a store with a collision = %d", e)
			}
		}
	}
}

// R1: as many files as a list may have, all of them with conflicts, are merged in good time, into a store that is nearly full.
func TestMany(t *testing.T) {
	start := time.Now()
	var items []api.Item
	b := &box{}
	var lists [3][]api.File
	for i := range api.MaxFiles {
		for k := range lists {
			single := &box{}
			id := single.blob(fmt.Sprintf("same\n%d\n%d\nsame\n", i, k))
			items = append(items, single.items...)
			lists[k] = append(lists[k], api.File{Path: fmt.Sprintf("d%02d/f%05d", i/1000, i), Mode: api.ModeFile, Id: id})
		}
	}
	for i := 0; len(items) < api.MaxItems-api.MaxFiles; i++ {
		items = append(items, api.Item{Id: fmt.Sprintf("%040x", i), Kind: api.Blob})
	}
	slices.SortFunc(items, func(a, b api.Item) int { return strings.Compare(a.Id, b.Id) })
	b.items = items
	s, m, e := tmerge.Merge(b.store(), lists[0], lists[1], lists[2], options())
	if e != api.OK || len(s.Items) != api.MaxItems || len(m.Files) != api.MaxFiles || len(m.Notes) != api.MaxFiles || len(m.Slots) != 3*api.MaxFiles || !tmerge.Valid(m) {
		t.Errorf("Merge = %d items, %d files, %d records, %d slots, %d", len(s.Items), len(m.Files), len(m.Notes), len(m.Slots), e)
	}
	if d := time.Since(start); d > 20*time.Second {
		t.Errorf("it took %s", d)
	}
}

// R3: nothing that is handed in is changed, nor what stands behind it, and results are new memory.
func TestMemory(t *testing.T) {
	b := &box{}
	base, ours, theirs := b.list("a:"+one+" b:"+two+" c:x d:z"), b.list("a:Xbcdefghij c:y d:z e:"+two), b.list("b:klmnopqrsX c:z d:z f:"+one)
	s := b.store()
	keep := [][]api.File{slices.Clone(base), slices.Clone(ours), slices.Clone(theirs)}
	items := slices.Clone(s.Items)
	for _, l := range [][3][]api.File{{base, ours, theirs}, {base[:2], ours[:2], theirs[:2]}, {base, base, base}, {nil, base[3:], base[3:]}} {
		got, m, _ := tmerge.Merge(api.Store{Items: s.Items[:len(s.Items):len(s.Items)]}, l[0], l[1], l[2], options())
		back := tmerge.Swap(m)
		want := show(got, m)
		for i := range back.Files {
			back.Files[i] = api.File{}
		}
		for i := range back.Slots {
			back.Slots[i] = api.IndexEntry{}
		}
		for i := range back.Notes {
			back.Notes[i] = api.Conflict{}
		}
		if show(got, m) != want {
			t.Error("Swap shares memory")
		}
		for i := range got.Items {
			got.Items[i] = api.Item{}
		}
		for i := range m.Files {
			m.Files[i] = api.File{}
		}
		got, _, _, _ = tmerge.File(s, base[0], ours[0], api.File{}, options())
		for i := range got.Items {
			got.Items[i] = api.Item{}
		}
	}
	if !slices.Equal(base, keep[0]) || !slices.Equal(ours, keep[1]) || !slices.Equal(theirs, keep[2]) || !slices.Equal(s.Items, items) {
		t.Error("an argument was changed")
	}
}
