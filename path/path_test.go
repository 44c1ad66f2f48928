package path_test

import (
	"slices"
	"strconv"
	"strings"
	"testing"

	"graftage/api"
	"graftage/path"
)

// words returns all strings of at most most bytes out of letters.
func words(letters string, most int) []string {
	all := []string{""}
	for start, size := 0, 0; size < most; size++ {
		end := len(all)
		for _, word := range all[start:end] {
			for i := range len(letters) {
				all = append(all, word+letters[i:i+1])
			}
		}
		start = end
	}
	return all
}

// deep returns a path of n components of size bytes.
func deep(n, size int) string {
	return strings.Join(slices.Repeat([]string{strings.Repeat("x", size)}, n), "/")
}

// sized returns a path of size bytes, more than 3 * 65 of them.
func sized(size int) string {
	return deep(3, 64) + "/" + strings.Repeat("y", size-3*65)
}

// validPaths returns paths of every kind.
func validPaths() []string {
	all := []string{
		"a", "a/b.c", "a/b/c", " ", "~", "\x7f", "\x80", "\xff/\xfe", "ä/ö", "a b/ c", "\\", "*", "-",
		"...", ".a", "..a", "a.", "a..", ". ", " .", ".graft2", ".graf", "graft", ".Graft", ".GRAFT", "a.graft", ".graft.", ".git",
		deep(1, 64), deep(16, 1), deep(16, 15), deep(3, 64), sized(196), sized(254), sized(255),
	}
	for b := 32; b < 256; b++ {
		if b != '/' {
			all = append(all, "a"+string([]byte{byte(b)}), "x/"+string([]byte{byte(b)})+"a/y")
		}
	}
	return all
}

// invalidPaths returns strings that are no paths, each for a reason of its own.
func invalidPaths() []string {
	all := []string{
		"", "/", "//", "/a", "a/", "a//b", "a/b/", "//a", "a/b//", "/a/b",
		deep(1, 65), "a/" + deep(1, 65), deep(1, 65) + "/a", "a/" + deep(1, 65) + "/a", deep(17, 1), deep(17, 15), deep(300, 1),
		sized(256), sized(257), deep(4, 64), strings.Repeat("a", 255), strings.Repeat("a", 1<<20), strings.Repeat("/", 1<<20),
	}
	for _, wrong := range []string{".", "..", ".graft"} {
		all = append(all, wrong, wrong+"/x", "x/"+wrong, "x/"+wrong+"/y", "x/y/z/"+wrong)
	}
	for b := range 32 {
		b := string([]byte{byte(b)})
		all = append(all, b, b+"a", "a"+b, "x/a"+b+"a/y")
	}
	return all
}

// P6.1: what is a path, at the limits and around the names that none has.
func TestIs(t *testing.T) {
	for _, p := range validPaths() {
		if !path.Is(p) {
			t.Errorf("Is(%q) = false", p)
		}
	}
	for _, p := range invalidPaths() {
		if path.Is(p) {
			t.Errorf("Is(%.300q) = true", p)
		}
	}
	if len(sized(255)) != api.MaxPath || strings.Count(deep(16, 1), "/")+1 != api.MaxDeep || len(deep(1, 64)) != api.MaxName {
		t.Error("the limits aren't tested where they are")
	}
}

// P6.1: every arrangement of the bytes that matter.
func TestIsPlain(t *testing.T) {
	for _, p := range words("/.a\x1f", 6) {
		want := true
		for _, part := range strings.Split(p, "/") {
			want = want && part != "" && part != "." && part != ".." && !strings.Contains(part, "\x1f")
		}
		if got := path.Is(p); got != want {
			t.Errorf("Is(%q) = %t", p, got)
		}
	}
}

// P6.2: what stands between the slashes, and nothing for "".
func TestParts(t *testing.T) {
	for p, want := range map[string][]string{
		"":        nil,
		"a":       {"a"},
		"a/b.c":   {"a", "b.c"},
		"ab/c/de": {"ab", "c", "de"},
		"/":       {"", ""},
		"/a":      {"", "a"},
		"a/":      {"a", ""},
		"a//b":    {"a", "", "b"},
		"///":     {"", "", "", ""},
		"../.":    {"..", "."},
		"\x00/\\": {"\x00", "\\"},
	} {
		if got := path.Parts(p); !slices.Equal(got, want) {
			t.Errorf("Parts(%q) = %q, want %q", p, got, want)
		}
	}
	if got := path.Parts(deep(3000, 2)); !slices.Equal(got, slices.Repeat([]string{"xx"}, 3000)) {
		t.Errorf("Parts of a long string = %d strings", len(got))
	}
}

// P6.3: a slash between any two elements, whatever they are; the argument stays.
func TestJoin(t *testing.T) {
	for _, c := range []struct {
		l    []string
		want string
	}{
		{nil, ""},
		{[]string{}, ""},
		{[]string{""}, ""},
		{[]string{"a"}, "a"},
		{[]string{"a", "b.c", "d"}, "a/b.c/d"},
		{[]string{"", ""}, "/"},
		{[]string{"", "a", ""}, "/a/"},
		{[]string{"a/b", "/", "c"}, "a/b///c"},
		{[]string{"\xff", "\x00"}, "\xff/\x00"},
		{slices.Repeat([]string{"xx"}, 3000), deep(3000, 2)},
	} {
		before := slices.Clone(c.l)
		if got := path.Join(c.l); got != c.want {
			t.Errorf("Join(%.100q) = %.100q, want %.100q", c.l, got, c.want)
		}
		if !slices.Equal(c.l, before) {
			t.Errorf("Join changes %.100q", before)
		}
	}
}

// P6.4, P6.5: what stands before and after the last slash.
func TestDirName(t *testing.T) {
	for p, want := range map[string][2]string{
		"":        {"", ""},
		"a":       {"", "a"},
		"a/b":     {"a", "b"},
		"a/b/c":   {"a/b", "c"},
		"ab/cd":   {"ab", "cd"},
		"/":       {"", ""},
		"/a":      {"", "a"},
		"a/":      {"a", ""},
		"//":      {"/", ""},
		"a//b":    {"a/", "b"},
		"a/b//":   {"a/b/", ""},
		"./..":    {".", ".."},
		"a\\b":    {"", "a\\b"},
		"\x00/\n": {"\x00", "\n"},
	} {
		if got := [2]string{path.Dir(p), path.Name(p)}; got != want {
			t.Errorf("Dir and Name of %q = %q, want %q", p, got, want)
		}
	}
}

// P6.6: inside of a directory at any depth, and not the directory itself.
func TestWithin(t *testing.T) {
	for _, c := range []struct {
		dir, p string
		want   bool
	}{
		{"a", "a/b", true},
		{"a", "a/b/c", true},
		{"a/b", "a/b/c", true},
		{"a", "ab", false},
		{"a", "ab/c", false},
		{"a", "a", false},
		{"a", "a/", false},
		{"a", "a//", true},
		{"a/", "a/b", false},
		{"a/", "a//b", true},
		{"a/", "a//", false},
		{"a/b", "a", false},
		{"b", "a/b", false},
		{"a", "b/a/c", false},
		{"a", "A/b", false},
		{"a", "a.b", false},
		{"a", "", false},
		{"", "", false},
		{"", "a", true},
		{"", "a/b", true},
		{"", "/", true},
		{"", "/a", true},
		{"/", "/a", false},
		{"/", "//a", true},
		{"/", "//", false},
		{"..", "../a", true},
	} {
		if got := path.Within(c.dir, c.p); got != c.want {
			t.Errorf("Within(%q, %q) = %t", c.dir, c.p, got)
		}
	}
}

// plainWithin follows P6.6.
func plainWithin(dir, p string) bool {
	if dir == "" {
		return p != ""
	}
	rest, inside := strings.CutPrefix(p, dir+"/")
	return inside && rest != ""
}

// P6.6: any two strings, against the definition.
func TestWithinPlain(t *testing.T) {
	all := words("/a.", 5)
	for _, dir := range all {
		for _, p := range all {
			if got := path.Within(dir, p); got != plainWithin(dir, p) {
				t.Errorf("Within(%q, %q) = %t", dir, p, got)
			}
		}
	}
}

// P6.7: the name in the directory, or alone in the root.
func TestUnder(t *testing.T) {
	for _, c := range [][3]string{
		{"", "a", "a"},
		{"a", "b", "a/b"},
		{"a/b", "c", "a/b/c"},
		{"a", "b/c", "a/b/c"},
		{"", "", ""},
		{"a", "", "a/"},
		{"/", "a", "//a"},
		{"a/", "/b", "a///b"},
		{"", "/a", "/a"},
	} {
		if got := path.Under(c[0], c[1]); got != c[2] {
			t.Errorf("Under(%q, %q) = %q, want %q", c[0], c[1], got, c[2])
		}
	}
}

// expectMeet fails unless Meet answers just this.
func expectMeet(t *testing.T, l []string, i, k int, ok bool) {
	t.Helper()
	before := slices.Clone(l)
	if gotI, gotK, gotOk := path.Meet(l); gotI != i || gotK != k || gotOk != ok {
		t.Errorf("Meet of %d strings %.60q = %d, %d, %t, want %d, %d, %t", len(l), l[:min(len(l), 8)], gotI, gotK, gotOk, i, k, ok)
	}
	if !slices.Equal(l, before) {
		t.Errorf("Meet changes %.60q", before[:min(len(l), 8)])
	}
}

// P6.8: the example, and which pair is the first.
func TestMeet(t *testing.T) {
	expectMeet(t, []string{"a/b", "c", "a"}, 0, 2, true)
	expectMeet(t, []string{"a", "c", "a/b"}, 0, 2, true)
	expectMeet(t, []string{"a", "a"}, 0, 1, true)
	expectMeet(t, []string{"x", "a", "y", "a/b", "a"}, 1, 3, true)
	expectMeet(t, []string{"x", "a/b", "y", "a/c", "a"}, 1, 4, true)
	expectMeet(t, []string{"b", "c/d", "c", "b/e"}, 0, 3, true)
	expectMeet(t, []string{"b", "c", "c", "b"}, 0, 3, true)
	expectMeet(t, []string{"b/e", "c", "c", "b"}, 0, 3, true)
	expectMeet(t, []string{"x", "b", "a", "a/b/c/d", "a/b"}, 2, 3, true)
	expectMeet(t, []string{"x", "a/b/c/d", "a/b/c", "a"}, 1, 2, true)
	expectMeet(t, []string{"a/b/c", "a/b/d", "b", "a/b"}, 0, 3, true)
}

// P6.8: names that only look alike don't meet.
func TestMeetNone(t *testing.T) {
	expectMeet(t, nil, 0, 0, false)
	expectMeet(t, []string{}, 0, 0, false)
	expectMeet(t, []string{""}, 0, 0, false)
	expectMeet(t, []string{"a"}, 0, 0, false)
	expectMeet(t, []string{"a/b/c"}, 0, 0, false)
	expectMeet(t, []string{"a", "ab", "ab.c", "b", "b.a/x", "b0/x", "A", "c/a", "c/b/a"}, 0, 0, false)
	expectMeet(t, []string{"a/b", "a/bc", "a/bc0/d", "a/b.d", "b/a"}, 0, 0, false)
}

// P6.8: strings that are no paths meet as P6.6 says, the empty one with all.
func TestMeetAnyStrings(t *testing.T) {
	expectMeet(t, []string{"a", "b", ""}, 0, 2, true)
	expectMeet(t, []string{"", "/"}, 0, 1, true)
	expectMeet(t, []string{"", ""}, 0, 1, true)
	expectMeet(t, []string{"a", "a/"}, 0, 0, false)
	expectMeet(t, []string{"a/", "a", "a/b"}, 1, 2, true)
	expectMeet(t, []string{"a/", "a", "a//b"}, 0, 2, true)
	expectMeet(t, []string{"a", "a/", "a/b"}, 0, 2, true)
	expectMeet(t, []string{"a/b", "a/", "a"}, 0, 2, true)
	expectMeet(t, []string{"/", "/a", "a/"}, 0, 0, false)
	expectMeet(t, []string{"//a", "/a", "/"}, 0, 2, true)
	expectMeet(t, []string{"/", "//"}, 0, 0, false)
	expectMeet(t, []string{"//", "///", "/"}, 1, 2, true)
}

// plainMeet follows P6.8, trying all pairs.
func plainMeet(l []string) (int, int, bool) {
	for i := range l {
		for k := i + 1; k < len(l); k++ {
			if l[i] == l[k] || plainWithin(l[i], l[k]) || plainWithin(l[k], l[i]) {
				return i, k, true
			}
		}
	}
	return 0, 0, false
}

// P6.8: many lists, against the definition.
func TestMeetPlain(t *testing.T) {
	seed := uint64(1)
	draw := func(n int) int {
		seed = seed*6364136223846793005 + 1442695040888963407
		return int((seed >> 33) % uint64(n))
	}
	for _, pool := range [][]string{words("a/", 5), words("ab/", 4), words("abcd/", 6), words("a/.0", 5)} {
		for range 20000 {
			var l []string
			for range draw(12) {
				l = append(l, pool[draw(len(pool))])
			}
			i, k, ok := plainMeet(l)
			expectMeet(t, l, i, k, ok)
		}
	}
	for _, one := range words("a/", 5) {
		for _, two := range words("a/", 5) {
			i, k, ok := plainMeet([]string{one, two})
			expectMeet(t, []string{one, two}, i, k, ok)
		}
	}
}

// R1: long lists and long strings have their answer in good time, too.
func TestMeetMuch(t *testing.T) {
	var l []string
	for i := range 1 << 17 {
		l = append(l, "dir"+strconv.Itoa(i%1000)+"/sub/file"+strconv.Itoa(i))
	}
	expectMeet(t, l, 0, 0, false)
	expectMeet(t, append(slices.Clone(l), "dir999/sub"), 999, 1<<17, true)
	expectMeet(t, append(slices.Clone(l), "dir7/sub/file70007/x", "dir7"), 7, 1<<17+1, true)
	expectMeet(t, append(slices.Clone(l), l[1<<17-1]), 1<<17-1, 1<<17, true)
	slashes := strings.Repeat("/", 1<<20)
	expectMeet(t, []string{slashes, "a" + slashes, "a", "b"}, 1, 2, true)
	expectMeet(t, []string{slashes, "a" + slashes, "b", slashes[1:]}, 0, 0, false)
}

// P6.9: a valid path is put together again from its parts, and from directory and name, and lies in its directory.
func TestValidPaths(t *testing.T) {
	for _, p := range validPaths() {
		parts := path.Parts(p)
		if path.Join(parts) != p || path.Under(path.Dir(p), path.Name(p)) != p {
			t.Errorf("%q does not come back", p)
		}
		if !path.Within(path.Dir(p), p) || path.Within(p, p) {
			t.Errorf("%q is not in %q alone", p, path.Dir(p))
		}
		for _, part := range parts {
			if !path.Is(part) {
				t.Errorf("the part %q of %q is no path", part, p)
			}
		}
		if dir := path.Dir(p); dir != "" && !path.Is(dir) || parts[len(parts)-1] != path.Name(p) {
			t.Errorf("Dir and Name of %q = %q, %q", p, dir, path.Name(p))
		}
	}
}

// P6.9: what lies within a string is longer and lies within that string's directory.
func TestWithinDir(t *testing.T) {
	all := words("/ab", 5)
	for _, p := range all {
		for _, q := range all {
			if path.Within(p, q) && (len(q) <= len(p) || !path.Within(path.Dir(p), q)) {
				t.Errorf("%q is within %q, but not longer and within %q", q, p, path.Dir(p))
			}
		}
	}
}

// R3: the lists of two calls share nothing.
func TestPartsNewMemory(t *testing.T) {
	one, two := path.Parts("a/b"), path.Parts("a/b")
	one[0] = "x"
	if two[0] != "a" {
		t.Error("two answers share memory")
	}
}
