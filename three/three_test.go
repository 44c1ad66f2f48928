package three_test

import (
	"reflect"
	"slices"
	"strconv"
	"strings"
	"testing"
	"time"

	"graftage/api"
	"graftage/diff"
	"graftage/three"
)

// draw returns numbers below n that depend on seed alone.
func draw(seed uint64) func(n int) int {
	return func(n int) int {
		seed = seed*6364136223846793005 + 1442695040888963407
		return int((seed >> 33) % uint64(n))
	}
}

// letters returns a list with a line for each byte of s.
func letters(s string) []string {
	var l []string
	for _, b := range []byte(s) {
		l = append(l, string([]byte{b}))
	}
	return l
}

// fed returns a list with a line for each byte of s, each with a line feed.
func fed(s string) []string {
	l := letters(s)
	for i := range l {
		l[i] += "\n"
	}
	return l
}

// lists returns all lists of at most most lines, each a letter out of some.
func lists(some string, most int) [][]string {
	all := [][]string{nil}
	for start, size := 0, 0; size < most; size++ {
		end := len(all)
		for _, l := range all[start:end] {
			for _, line := range letters(some) {
				all = append(all, append(slices.Clone(l), line))
			}
		}
		start = end
	}
	return all
}

// noise returns n lines out of kinds ones.
func noise(n, kinds int, next func(int) int) []string {
	l := make([]string, 0, n)
	for range n {
		l = append(l, strconv.Itoa(next(kinds))+"\n")
	}
	return l
}

// changed returns l with some lines changed, taken out or put in.
func changed(l []string, kinds int, next func(int) int) []string {
	var out []string
	for _, line := range l {
		switch next(8) {
		case 0:
		case 1:
			out = append(out, noise(1, kinds, next)...)
		case 2:
			out = append(append(out, noise(1+next(2), kinds, next)...), line)
		default:
			out = append(out, line)
		}
	}
	return append(out, noise(next(2), kinds, next)...)
}

// clean returns a clean region.
func clean(l ...string) api.Region {
	return api.Region{Kind: api.RegionClean, Lines: l}
}

// conflict returns a conflict, with a line for each byte.
func conflict(ours, base, theirs string) api.Region {
	return api.Region{Kind: api.RegionConflict, Ours: letters(ours), Base: letters(base), Theirs: letters(theirs)}
}

// fedConflict returns a conflict, with a line for each byte and a line feed behind it.
func fedConflict(ours, base, theirs string) api.Region {
	return api.Region{Kind: api.RegionConflict, Ours: fed(ours), Base: fed(base), Theirs: fed(theirs)}
}

// same reports whether two lists of regions are equal; a nil list is an empty one.
func same(a, b []api.Region) bool {
	return slices.EqualFunc(a, b, func(x, y api.Region) bool {
		return x.Kind == y.Kind && slices.Equal(x.Lines, y.Lines) && slices.Equal(x.Ours, y.Ours) && slices.Equal(x.Base, y.Base) && slices.Equal(x.Theirs, y.Theirs)
	})
}

// plainKept returns for each line of base its index in side, or -1, by walking through the script.
func plainKept(base, side []string) map[int]int {
	at := make(map[int]int)
	i, j := 0, 0
	for _, one := range append(diff.Least(base, side), api.Edit{From: len(base), To: len(side)}) {
		for ; i < one.From; i, j = i+1, j+1 {
			at[i] = j
		}
		i, j = one.From+one.Deleted, one.To+one.Inserted
	}
	return at
}

// plainStretch follows the definition for one stretch.
func plainStretch(base, ours, theirs []string) []api.Region {
	if slices.Equal(ours, base) {
		return []api.Region{clean(theirs...)}
	}
	if slices.Equal(theirs, base) || slices.Equal(ours, theirs) {
		return []api.Region{clean(ours...)}
	}
	var head, tail []string
	for len(ours) > 0 && len(theirs) > 0 && ours[0] == theirs[0] {
		head = append(head, ours[0])
		ours, theirs = ours[1:], theirs[1:]
	}
	for len(ours) > 0 && len(theirs) > 0 && ours[len(ours)-1] == theirs[len(theirs)-1] {
		tail = append([]string{ours[len(ours)-1]}, tail...)
		ours, theirs = ours[:len(ours)-1], theirs[:len(theirs)-1]
	}
	return []api.Region{clean(head...), {Kind: api.RegionConflict, Ours: ours, Base: base, Theirs: theirs}, clean(tail...)}
}

// plainMerge follows the definition: it takes all stretches and stable lines apart, and joins and drops regions in the end.
func plainMerge(base, ours, theirs []string) []api.Region {
	x, y := plainKept(base, ours), plainKept(base, theirs)
	var parts []api.Region
	b, o, t := 0, 0, 0
	for k := range base {
		i, isOurs := x[k]
		j, isTheirs := y[k]
		if isOurs && isTheirs {
			parts = append(parts, plainStretch(base[b:k], ours[o:i], theirs[t:j])...)
			parts = append(parts, clean(base[k]))
			b, o, t = k+1, i+1, j+1
		}
	}
	parts = append(parts, plainStretch(base[b:], ours[o:], theirs[t:])...)
	var out []api.Region
	for _, r := range parts {
		last := len(out) - 1
		switch {
		case r.Kind == api.RegionClean && len(r.Lines) == 0:
		case r.Kind == api.RegionClean && last >= 0 && out[last].Kind == api.RegionClean:
			out[last].Lines = append(slices.Clone(out[last].Lines), r.Lines...)
		default:
			out = append(out, r)
		}
	}
	return out
}

// expectMerge fails unless Merge answers just this.
func expectMerge(t *testing.T, base, ours, theirs []string, want []api.Region) {
	t.Helper()
	if got := three.Merge(base, ours, theirs); !same(got, want) {
		t.Errorf("Merge(%.40q, %.40q, %.40q) = %.200v, want %.200v", base, ours, theirs, got, want)
	}
}

// P12.1: the examples, and each way in which a stretch is resolved.
func TestMerge(t *testing.T) {
	for _, c := range []struct {
		base, ours, theirs string
		want               []api.Region
	}{
		{"abc", "axc", "abcd", []api.Region{clean("a", "x", "c", "d")}},
		{"a", "b", "c", []api.Region{conflict("b", "a", "c")}},
		{"", "pxq", "pyq", []api.Region{clean("p"), conflict("x", "", "y"), clean("q")}},
		{"", "", "", nil},
		{"a", "", "", nil},
		{"a", "a", "", nil},
		{"a", "", "a", nil},
		{"a", "", "b", []api.Region{conflict("", "a", "b")}},
		{"a", "b", "", []api.Region{conflict("b", "a", "")}},
		{"", "a", "", []api.Region{clean("a")}},
		{"", "", "a", []api.Region{clean("a")}},
		{"a", "b", "b", []api.Region{clean("b")}},
		{"ab", "xb", "ay", []api.Region{conflict("xb", "ab", "ay")}},
		{"a1b", "x1b", "a1y", []api.Region{clean("x", "1", "y")}},
		{"a1b", "x1y", "u1v", []api.Region{conflict("x", "a", "u"), clean("1"), conflict("y", "b", "v")}},
		{"1", "x1", "1y", []api.Region{clean("x", "1", "y")}},
		{"1a2", "1x2", "1y2", []api.Region{clean("1"), conflict("x", "a", "y"), clean("2")}},
		{"1a2", "1pxq2", "1pyq2", []api.Region{clean("1", "p"), conflict("x", "a", "y"), clean("q", "2")}},
		{"", "pq", "pqq", []api.Region{clean("p", "q"), conflict("", "", "q")}},
		{"", "pp", "p", []api.Region{clean("p"), conflict("p", "", "")}},
		{"", "qp", "p", []api.Region{conflict("q", "", ""), clean("p")}},
		{"bcd", "bxcyd", "bcd", []api.Region{clean("b", "x", "c", "y", "d")}},
		{"abc", "bc", "ab", []api.Region{clean("b")}},
	} {
		expectMerge(t, letters(c.base), letters(c.ours), letters(c.theirs), c.want)
	}
	for _, l := range [][3][]string{{{"a"}, {"a\n"}, {"a"}}, {{"a"}, {"a"}, {"a\n"}}, {{"a"}, {"a\n"}, {"a\n"}}} {
		expectMerge(t, l[0], l[1], l[2], []api.Region{clean("a\n")})
	}
	expectMerge(t, []string{"", ""}, []string{"", "x"}, []string{"", "y"}, []api.Region{clean(""), {Kind: api.RegionConflict, Ours: []string{"x"}, Base: []string{""}, Theirs: []string{"y"}}})
}

// P12.1, P12.7: all triples of short lists, against a plain reference.
func TestShortMerges(t *testing.T) {
	for _, all := range [][][]string{lists("abc", 3), lists("ab", 4)} {
		for _, base := range all {
			for i, ours := range all {
				for _, theirs := range all[:i+1] {
					checkMerge(t, base, ours, theirs)
				}
			}
		}
	}
}

// P12.1, P12.7: longer lists, against a plain reference.
func TestLongMerges(t *testing.T) {
	next := draw(1)
	for range 500 {
		kinds := 1 + next(40)
		base := noise(next(60), kinds, next)
		ours, theirs := changed(base, kinds, next), changed(base, kinds, next)
		checkMerge(t, base, ours, theirs)
		l := three.Merge(base, ours, theirs)
		text := three.Mark(l, "o", "t", 2)
		if got, e := three.Parse(text); e != api.OK || !same(got, l) {
			t.Errorf("Parse(%q) = %v, %v, want %v", text, got, e, l)
		}
	}
}

// checkMerge fails unless Merge answers what the plain reference does, for both orders of the sides, and what the properties of a merge ask for.
func checkMerge(t *testing.T, base, ours, theirs []string) {
	t.Helper()
	want := plainMerge(base, ours, theirs)
	expectMerge(t, base, ours, theirs, want)
	clean := true
	for i := range want {
		want[i].Ours, want[i].Theirs = want[i].Theirs, want[i].Ours
		clean = clean && want[i].Kind == api.RegionClean
	}
	expectMerge(t, base, theirs, ours, want)
	if three.Clean(want) != clean {
		t.Errorf("Clean(%v) = %t", want, !clean)
	}
	for _, l := range [][3][]string{{base, base, ours}, {base, ours, base}, {theirs, ours, ours}} {
		got := three.Merge(l[0], l[1], l[2])
		if !three.Clean(got) || len(got) > 1 || !slices.Equal(three.Lines(got, 0), ours) {
			t.Errorf("Merge(%q, %q, %q) = %v", l[0], l[1], l[2], got)
		}
	}
}

// P12.2: no region, clean ones, and a conflict in each place.
func TestClean(t *testing.T) {
	a, b := clean("a"), conflict("a", "", "b")
	for _, c := range []struct {
		l    []api.Region
		want bool
	}{
		{nil, true}, {[]api.Region{}, true}, {[]api.Region{a}, true}, {[]api.Region{a, a}, true}, {[]api.Region{b}, false},
		{[]api.Region{a, b}, false}, {[]api.Region{b, a}, false}, {[]api.Region{a, b, a}, false}, {[]api.Region{b, b}, false},
		{[]api.Region{conflict("", "", "")}, false},
	} {
		if got := three.Clean(c.l); got != c.want {
			t.Errorf("Clean(%v) = %t", c.l, got)
		}
	}
}

// P12.3: each side, and sides that there aren't.
func TestLines(t *testing.T) {
	l := []api.Region{conflict("ab", "c", "de"), clean("f", "g"), conflict("", "h", "i"), conflict("j", "", ""), clean("k")}
	for _, c := range []struct {
		side int
		want string
	}{
		{api.SideOurs, "abfgjk"}, {api.SideTheirs, "defgik"}, {api.SideUnion, "abdefgijk"},
		{api.SideNone, "fgk"}, {-1, "fgk"}, {4, "fgk"}, {1 << 40, "fgk"},
	} {
		if got := three.Lines(l, c.side); strings.Join(got, "") != c.want || len(got) != len(c.want) {
			t.Errorf("Lines with side %d = %q, want %q", c.side, got, c.want)
		}
		if got := three.Lines(nil, c.side); len(got) != 0 {
			t.Errorf("Lines of nothing with side %d = %q", c.side, got)
		}
	}
	odd := []api.Region{{Kind: api.RegionClean, Lines: []string{"a"}, Ours: []string{"b"}, Base: []string{"c"}, Theirs: []string{"d"}}}
	if got := three.Lines(odd, api.SideUnion); !slices.Equal(got, []string{"a"}) {
		t.Errorf("Lines of a clean region with sides = %q", got)
	}
}

// P12.4: the example, both styles, and line feeds.
func TestMark(t *testing.T) {
	one := []api.Region{conflict("b", "a", "c")}
	two := []api.Region{clean("p", "q"), conflict("b", "a", "c"), clean("r", "s")}
	full := []api.Region{clean("p\n"), {Kind: api.RegionConflict, Ours: []string{"b\n", "c\n"}, Base: []string{"a\n", "\n"}, Theirs: []string{"d"}}, clean("q\n", "r")}
	ends := []api.Region{clean("p\n", "\n", ""), clean("", "q"), clean("\n", "")}
	for _, c := range []struct {
		l     []api.Region
		style int
		want  string
	}{
		{nil, 1, ""}, {nil, 2, ""},
		{one, 1, "<<<<<<< o\nb\n=======\nc\n>>>>>>> t\n"},
		{one, 2, "<<<<<<< o\nb\n|||||||\na\n=======\nc\n>>>>>>> t\n"},
		{one, 0, "<<<<<<< o\nb\n=======\nc\n>>>>>>> t\n"},
		{one, 3, "<<<<<<< o\nb\n=======\nc\n>>>>>>> t\n"},
		{one, -2, "<<<<<<< o\nb\n=======\nc\n>>>>>>> t\n"},
		{two, 1, "p\nq\n<<<<<<< o\nb\n=======\nc\n>>>>>>> t\nrs"},
		{full, 1, "p\n<<<<<<< o\nb\nc\n=======\nd\n>>>>>>> t\nq\nr"},
		{full, 2, "p\n<<<<<<< o\nb\nc\n|||||||\na\n\n=======\nd\n>>>>>>> t\nq\nr"},
		{ends, 2, "p\n\n\n\nq\n\n"},
		{[]api.Region{conflict("", "", "")}, 1, "<<<<<<< o\n=======\n>>>>>>> t\n"},
		{[]api.Region{conflict("", "", "")}, 2, "<<<<<<< o\n|||||||\n=======\n>>>>>>> t\n"},
		{[]api.Region{clean("a", "b")}, 1, "ab"},
		{[]api.Region{clean("a\n")}, 1, "a\n"},
	} {
		if got := three.Mark(c.l, "o", "t", c.style); got != c.want {
			t.Errorf("Mark(%v, style %d) = %q, want %q", c.l, c.style, got, c.want)
		}
	}
	if got := three.Mark(one, "", "a b", 1); got != "<<<<<<< \nb\n=======\nc\n>>>>>>> a b\n" {
		t.Errorf("Mark with unlike names = %q", got)
	}
	if got := three.Mark(one, "o\n", "t\n", 1); got != "<<<<<<< o\nb\n=======\nc\n>>>>>>> t\n" {
		t.Errorf("Mark with names that end with a line feed = %q", got)
	}
}

// P12.5: both styles, names, and lines that are nearly markers.
func TestParse(t *testing.T) {
	one := []api.Region{fedConflict("b", "", "c")}
	for _, c := range []struct {
		s    string
		want []api.Region
	}{
		{"", nil},
		{"a", []api.Region{clean("a")}},
		{"\n\na", []api.Region{clean("\n", "\n", "a")}},
		{"<<<<<<< o\nb\n=======\nc\n>>>>>>> t\n", one},
		{"<<<<<<< \nb\n=======\nc\n>>>>>>> ", one},
		{"<<<<<<< \x00=======\nb\n=======\nc\n>>>>>>> >>>>>>> \xff", one},
		{"<<<<<<< o\nb\n|||||||\na\n=======\nc\n>>>>>>> t\n", []api.Region{fedConflict("b", "a", "c")}},
		{"<<<<<<< o\n|||||||\n=======\n>>>>>>> t\n", []api.Region{fedConflict("", "", "")}},
		{"<<<<<<< o\n=======\n>>>>>>> t\n<<<<<<< o\nb\n|||||||\n=======\nc\n>>>>>>> t\n", []api.Region{fedConflict("", "", ""), one[0]}},
		{"x\n<<<<<<< o\nb\n=======\nc\n>>>>>>> t\ny\nz", []api.Region{clean("x\n"), one[0], clean("y\n", "z")}},
		{"<<<<<<< o\nb\nd\n|||||||\na\ne\n=======\nc\nf\n>>>>>>> t\n<<<<<<< o\nb\n=======\nc\n>>>>>>> t\n", []api.Region{fedConflict("bd", "ae", "cf"), one[0]}},
		{"<<<<<<< o\nb\n=======\nb\n>>>>>>> t\n", []api.Region{fedConflict("b", "", "b")}},
		{"<<<<<<<\n=======\r\n======\n========\n||||||| b\n |||||||\n>>>>>>>\n", []api.Region{clean("<<<<<<<\n", "=======\r\n", "======\n", "========\n", "||||||| b\n", " |||||||\n", ">>>>>>>\n")}},
		{"<<<<<<\n <<<<<<< o\n<<<<<<<\to\n", []api.Region{clean("<<<<<<\n", " <<<<<<< o\n", "<<<<<<<\to\n")}},
	} {
		if got, e := three.Parse(c.s); e != api.OK || !same(got, c.want) {
			t.Errorf("Parse(%q) = %v, %v, want %v", c.s, got, e, c.want)
		}
	}
}

// plainParse follows P12.5 for lines that are letters: it takes one part of a conflict after the other.
func plainParse(l []string) ([]api.Region, bool) {
	next := func(mark string) bool {
		if len(l) == 0 || l[0] != mark {
			return false
		}
		l = l[1:]
		return true
	}
	part := func() []string {
		var out []string
		for len(l) > 0 && l[0] >= "x" && l[0] <= "z" {
			out, l = append(out, l[0]+"\n"), l[1:]
		}
		return out
	}
	var out []api.Region
	for len(l) > 0 {
		if lines := part(); len(lines) > 0 {
			out = append(out, clean(lines...))
			continue
		}
		r := api.Region{Kind: api.RegionConflict}
		if !next("<") {
			return nil, false
		}
		r.Ours = part()
		if next("|") {
			r.Base = part()
		}
		if !next("=") {
			return nil, false
		}
		r.Theirs = part()
		if !next(">") {
			return nil, false
		}
		out = append(out, r)
	}
	return out, true
}

// P12.5, P12.6: all short orders of markers and lines.
func TestNesting(t *testing.T) {
	marks := map[string]string{"<": "<<<<<<< o\n", "|": "|||||||\n", "=": "=======\n", ">": ">>>>>>> t\n"}
	for _, l := range lists("<|=>x", 7) {
		s := ""
		for i, line := range l {
			if mark := marks[line]; mark != "" {
				s += mark
				continue
			}
			l[i] = string([]byte{"xyz"[i%3]})
			s += l[i] + "\n"
		}
		if got, want := three.Marked(s), strings.ContainsAny(s, "<|=>"); got != want {
			t.Fatalf("Marked(%q) = %t", s, got)
		}
		want, ok := plainParse(l)
		got, e := three.Parse(s)
		if !same(got, want) || (e == api.OK) != ok || !ok && (e != api.ErrSyntax || got != nil) {
			t.Fatalf("Parse(%q) = %v, %v, want %v, %t", s, got, e, want, ok)
		}
	}
}

// P12.6: each marker, in each place, with and without a line feed.
func TestMarked(t *testing.T) {
	for s, want := range map[string]bool{
		"": false, "a\n": false, "\n": false,
		"<<<<<<< ": true, "<<<<<<< \n": true, "<<<<<<< o": true, ">>>>>>> ": true, ">>>>>>> t\n": true,
		"=======": true, "=======\n": true, "|||||||": true, "|||||||\n": true,
		"a\n=======\nb\n": true, "a\nb\n|||||||": true, "a\n>>>>>>> \n": true, "a\n<<<<<<< o\nb": true,
		"<<<<<<<": false, "<<<<<<<\n": false, ">>>>>>>": false, ">>>>>>>\n": false,
		"======= ": false, "=======a": false, "||||||| ": false, "||||||| a\n": false, "=======\r\n": false,
		" =======\n": false, "a=======\n": false, "======\n": false, "========\n": false, "||||||||": false, "<<<<<<<<": false, "<<<<<<<< o": false,
	} {
		if got := three.Marked(s); got != want {
			t.Errorf("Marked(%q) = %t", s, got)
		}
	}
}

// P12.7: the lines of a clean merge, whatever the side.
func TestCleanLines(t *testing.T) {
	l := three.Merge(letters("a1b"), letters("x1b"), letters("a1y"))
	for side := -1; side <= 4; side++ {
		if got := three.Lines(l, side); !slices.Equal(got, letters("x1y")) {
			t.Errorf("side %d has %q", side, got)
		}
	}
}

// R3: arguments stay as they are, and results are memory of their own.
func TestMemory(t *testing.T) {
	base, ours, theirs := letters("1a2b3"), letters("1pxq2b3"), letters("1pyq2b3cd")
	whole := [][]string{base, ours, theirs}
	for i := range whole {
		whole[i] = append(whole[i], "?", "?")
	}
	before := []string{strings.Join(whole[0], ""), strings.Join(whole[1], ""), strings.Join(whole[2], "")}
	l := three.Merge(whole[0][:5], whole[1][:7], whole[2][:9])
	text := three.Mark(l, "o", "t", 2)
	first := three.Lines(l, api.SideOurs)
	for i := range first {
		first[i] = "!"
	}
	if three.Mark(l, "o", "t", 2) != text {
		t.Error("Lines shares memory with the regions")
	}
	for i := range l {
		for _, list := range []*[]string{&l[i].Lines, &l[i].Ours, &l[i].Base, &l[i].Theirs} {
			for k := range *list {
				(*list)[k] = "!"
			}
			*list = append(*list, "!")
		}
	}
	for i := range whole {
		if strings.Join(whole[i], "") != before[i] {
			t.Errorf("Merge shares memory with its argument %d", i)
		}
	}
	got, _ := three.Parse(text)
	for i := range got {
		_ = append(got[i].Lines, "!")
		_ = append(got[i].Ours, "!")
	}
	again, _ := three.Parse(text)
	if !reflect.DeepEqual(got, again) {
		t.Error("Parse's lists share memory")
	}
}

// R1: lists up to the limit and beyond, in good time.
func TestMuch(t *testing.T) {
	start := time.Now()
	next := draw(2)
	base := noise(api.MaxLines, 100, next)
	checkMerge(t, base, changed(base, 100, next)[:api.MaxLines-1], changed(base, 100, next)[:api.MaxLines-1])
	more := append(noise(api.MaxLines, 5, next), "x")
	checkMerge(t, more, append(slices.Clone(more[1:]), "y"), append([]string{"z"}, more...))
	same := slices.Repeat([]string{"a\n"}, 1<<18)
	text := three.Mark(three.Merge(nil, same, append(slices.Clone(same), "b\n")), "o", "t", 1)
	if got, e := three.Parse(text); e != api.OK || len(got) != 2 || len(got[0].Lines) != len(same) {
		t.Errorf("Parse of much = %d regions, %v", len(got), e)
	}
	many := strings.Repeat("<<<<<<< \n=======\n>>>>>>> \n", 1<<16)
	if got, e := three.Parse(many); e != api.OK || len(got) != 1<<16 {
		t.Errorf("Parse of many = %d regions, %v", len(got), e)
	}
	if d := time.Since(start); d > 20*time.Second {
		t.Errorf("it took %s", d)
	}
}
