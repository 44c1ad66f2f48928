package tree_test

import (
	"cmp"
	"encoding/hex"
	"math"
	"regexp"
	"slices"
	"strconv"
	"strings"
	"testing"

	"graftage/api"
	"graftage/tree"
)

// octal holds the modes as the document writes them.
var octal = map[int]string{1: "100644", 2: "100755", 3: "120000", 4: "40000"}

// id returns an object ID that begins with the digits of n.
func id(n int) string {
	digits := strconv.FormatInt(int64(n), 16)
	return strings.Repeat("0", 4-len(digits)) + digits + strings.Repeat("0a", 18)
}

// entry returns an entry with an ID of its own for each mode.
func entry(mode int, name string) api.Entry {
	return api.Entry{Mode: mode, Name: name, Id: id(mode)}
}

// draw returns numbers below n that depend on seed alone.
func draw(seed uint64) func(n int) int {
	return func(n int) int {
		seed = seed*6364136223846793005 + 1442695040888963407
		return int((seed >> 33) % uint64(n))
	}
}

// lists returns all lists of at most most entries out of some.
func lists(some []api.Entry, most int) [][]api.Entry {
	all := [][]api.Entry{nil}
	for start, size := 0, 0; size < most; size++ {
		end := len(all)
		for _, l := range all[start:end] {
			for _, e := range some {
				all = append(all, append(slices.Clone(l), e))
			}
		}
		start = end
	}
	return all
}

// many returns a tree of n entries.
func many(n int) []api.Entry {
	var l []api.Entry
	for i := range n {
		l = append(l, api.Entry{Mode: 1 + i%4, Name: "n" + id(i)[:4], Id: id(i)})
	}
	return l
}

// plainKey is the sort key.
func plainKey(e api.Entry) string {
	if e.Mode != 4 {
		return e.Name
	}
	return e.Name + "/"
}

// name tells what a component of a path is, but for its length.
var name = regexp.MustCompile(`^[^\x00-\x1f/]+$`)

// plainValid tells a valid entry.
func plainValid(e api.Entry) bool {
	named := len(e.Name) <= 64 && name.MatchString(latin(e.Name)) && !slices.Contains([]string{".", "..", ".graft"}, e.Name)
	raw, err := hex.DecodeString(e.Id)
	return octal[e.Mode] != "" && named && err == nil && len(raw) == 20 && strings.ToLower(e.Id) == e.Id
}

// latin turns each byte into a character of its own, so that a regular expression sees bytes.
func latin(s string) string {
	var l []rune
	for _, b := range []byte(s) {
		l = append(l, rune(b))
	}
	return string(l)
}

// plainCheck follows P15.1, in its order.
func plainCheck(l []api.Entry) api.Errno {
	if len(l) > 1024 {
		return api.ErrTooLarge
	}
	for i, e := range l {
		if !plainValid(e) {
			return api.ErrInvalid
		}
		if i > 0 && plainKey(l[i-1]) >= plainKey(e) {
			return api.ErrUnsorted
		}
		for _, other := range l[:i] {
			if other.Name == e.Name {
				return api.ErrDuplicate
			}
		}
	}
	return api.OK
}

// plainBody lays a tree out.
func plainBody(l []api.Entry) string {
	var parts []string
	for _, e := range l {
		raw, _ := hex.DecodeString(e.Id)
		parts = append(parts, octal[e.Mode], " ", e.Name, "\x00", string(raw))
	}
	return strings.Join(parts, "")
}

// plainParse follows P15.3, in its order.
func plainParse(s string) ([]api.Entry, api.Errno) {
	var l []api.Entry
	for s != "" {
		mode, cut := 0, false
		for m, word := range octal {
			if strings.Index(s, word+" ") == 0 {
				mode = m
			}
			cut = cut || strings.Index(word+" ", s) == 0 && s != word+" "
		}
		if cut {
			return nil, api.ErrTruncated
		}
		if mode == 0 {
			return nil, api.ErrSyntax
		}
		s = s[len(octal[mode])+1:]
		parts := strings.SplitN(s, "\x00", 2)
		if len(parts) < 2 || len(parts[1]) < 20 {
			return nil, api.ErrTruncated
		}
		l = append(l, api.Entry{Mode: mode, Name: parts[0], Id: hex.EncodeToString([]byte(parts[1][:20]))})
		s = parts[1][20:]
	}
	if e := plainCheck(l); e != api.OK {
		return nil, e
	}
	return l, api.OK
}

// plainDrop follows P15.6.
func plainDrop(l []api.Entry, name string) []api.Entry {
	var out []api.Entry
	for _, e := range l {
		if e.Name != name {
			out = append(out, e)
		}
	}
	return out
}

// plainPut follows P15.5.
func plainPut(l []api.Entry, e api.Entry) []api.Entry {
	var out []api.Entry
	done := false
	for _, other := range plainDrop(l, e.Name) {
		if !done && plainKey(e) < plainKey(other) {
			out, done = append(out, e), true
		}
		out = append(out, other)
	}
	if !done {
		out = append(out, e)
	}
	return out
}

// expectCheck fails unless Check and Body answer just this.
func expectCheck(t *testing.T, l []api.Entry, want api.Errno) {
	t.Helper()
	if got := tree.Check(l); got != want {
		t.Errorf("Check(%.9v) = %d, want %d", l, got, want)
	}
	body := ""
	if want == api.OK {
		body = plainBody(l)
	}
	if got, e := tree.Body(l); got != body || e != want {
		t.Errorf("Body(%.9v) = %.99q, %d, want %.99q, %d", l, got, e, body, want)
	}
}

// expectParse fails unless Parse answers just this.
func expectParse(t *testing.T, s string, want []api.Entry, code api.Errno) {
	t.Helper()
	if got, e := tree.Parse(s); !slices.Equal(got, want) || e != code {
		t.Errorf("Parse(%.99q) = %.9v, %d, want %.9v, %d", s, got, e, want, code)
	}
}

// P15.1: each error, at the edges of its condition.
func TestCheck(t *testing.T) {
	a, dot, dir := entry(1, "a"), entry(1, "a.b"), entry(4, "a")
	bad := api.Entry{}
	for _, c := range []struct {
		l    []api.Entry
		want api.Errno
	}{
		{nil, api.OK},
		{[]api.Entry{}, api.OK},
		{[]api.Entry{a}, api.OK},
		{[]api.Entry{dot, dir}, api.OK}, // the example
		{[]api.Entry{dir, dot}, api.ErrUnsorted},
		{[]api.Entry{a, dot}, api.OK},
		{[]api.Entry{entry(1, "a"), entry(1, "a0")}, api.OK},
		{[]api.Entry{entry(4, "a"), entry(1, "a0")}, api.OK},
		{[]api.Entry{entry(4, "a"), entry(4, "a0")}, api.OK},
		{[]api.Entry{entry(4, "a"), entry(1, "a-")}, api.ErrUnsorted},
		{[]api.Entry{entry(1, "B"), entry(1, "a")}, api.OK},
		{[]api.Entry{entry(1, "z"), entry(1, "\x80")}, api.OK},
		{[]api.Entry{a, a}, api.ErrUnsorted},
		{[]api.Entry{dir, dir}, api.ErrUnsorted},
		{[]api.Entry{a, entry(2, "a")}, api.ErrUnsorted},
		{[]api.Entry{a, entry(3, "a")}, api.ErrUnsorted},
		{[]api.Entry{a, dir}, api.ErrDuplicate},
		{[]api.Entry{dir, a}, api.ErrUnsorted},
		{[]api.Entry{a, dot, dir}, api.ErrDuplicate},
		{[]api.Entry{a, dot, dir, bad}, api.ErrDuplicate},
		{[]api.Entry{a, dot, dir, a}, api.ErrDuplicate},
		{[]api.Entry{a, dot, bad, dir}, api.ErrInvalid},
		{[]api.Entry{dir, a, bad}, api.ErrUnsorted},
		{[]api.Entry{bad, dir, a}, api.ErrInvalid},
		{[]api.Entry{dir, entry(5, "a")}, api.ErrInvalid},
	} {
		expectCheck(t, c.l, c.want)
	}
}

// P15.1: which entries are valid.
func TestValid(t *testing.T) {
	for _, mode := range []int{math.MinInt, -256, -4, -1, 0, 5, 6, 256, 257, 100644, math.MaxInt} {
		expectCheck(t, []api.Entry{{Mode: mode, Name: "a", Id: id(1)}}, api.ErrInvalid)
	}
	long := strings.Repeat("n", 64)
	for mode := range octal {
		for name, want := range map[string]api.Errno{
			"a": 0, " ": 0, "...": 0, ".a": 0, "-": 0, "\x7f": 0, "\xff": 0, "é": 0, ".graft2": 0, ".GRAFT": 0, "graft": 0, "a b": 0, "\\": 0, "*": 0, long: 0,
			"": 1, ".": 1, "..": 1, ".graft": 1, "/": 1, "a/": 1, "/a": 1, "a/b": 1, "a//b": 1, "a/..": 1, "\x00": 1, "a\x00": 1, "a\n": 1, "\x1f": 1, "\t": 1, long + "n": 1, strings.Repeat("n", 256): 1, long + "/" + long: 1,
		} {
			expectCheck(t, []api.Entry{entry(mode, name)}, want)
		}
		for b := range 256 {
			l := []api.Entry{entry(mode, string([]byte{'n', byte(b)}))}
			expectCheck(t, l, plainCheck(l))
		}
		for _, s := range []string{"", "0", id(1)[1:], id(1) + "0", strings.ToUpper(id(1)), "g" + id(1)[1:], id(1)[1:] + " ", id(1)[1:] + "\x00", strings.Repeat("é", 20)} {
			expectCheck(t, []api.Entry{{Mode: mode, Name: "a", Id: s}}, api.ErrInvalid)
		}
		expectCheck(t, []api.Entry{{Mode: mode, Name: "a", Id: strings.Repeat("f", 40)}}, api.OK)
		expectCheck(t, []api.Entry{{Mode: mode, Name: "a", Id: strings.Repeat("0", 40)}}, api.OK)
	}
}

// P15.1, P15.2: all lists of a few entries, against a plain reference.
func TestLists(t *testing.T) {
	var some []api.Entry
	for _, name := range []string{"a", "a.", "a0", ""} {
		some = append(some, entry(1, name), entry(4, name))
	}
	some = append(some, entry(3, "a"))
	for _, l := range lists(some, 4) {
		expectCheck(t, l, plainCheck(l))
	}
}

// P15.1, P15.3: the limit of entries, which goes ahead of all other errors of Check, but behind those of Parse's own.
func TestLimit(t *testing.T) {
	most := many(api.MaxEntries)
	expectCheck(t, most, api.OK)
	body := plainBody(most)
	expectParse(t, body, most, api.OK)
	for _, e := range []api.Entry{entry(1, "z"), entry(1, "a"), {}, most[0]} {
		expectCheck(t, append(slices.Clone(most), e), api.ErrTooLarge)
		expectCheck(t, append([]api.Entry{e}, most...), api.ErrTooLarge)
	}
	more := body + plainBody([]api.Entry{entry(1, "")})
	expectParse(t, more, nil, api.ErrTooLarge)
	expectParse(t, more+"4", nil, api.ErrTruncated)
	expectParse(t, more+"5", nil, api.ErrSyntax)
	expectParse(t, more+"40000 a", nil, api.ErrTruncated)
	expectCheck(t, append(slices.Clone(most[1:]), most[0]), api.ErrUnsorted)
	dir := api.Entry{Mode: api.ModeDir, Name: most[0].Name, Id: id(0)}
	if most[0].Mode != api.ModeFile {
		t.Fatal("the first entry must be a file")
	}
	last := slices.Insert(slices.Clone(most[:len(most)-1]), 1, dir)
	expectCheck(t, last, api.ErrDuplicate)
	longest := strings.Repeat("x", 60)
	for i := range most {
		most[i].Name = longest + most[i].Name[1:]
	}
	expectParse(t, plainBody(most), most, api.OK)
}

// P15.2: the layout of a body, and the IDs' bytes.
func TestBody(t *testing.T) {
	raw := "\x00\x01\x02\x03\x04\x05\x06\x07\x08\x09\x0a\x0b\x0c\x0d\x0e\x0f\x7f\x80\xfe\xff"
	hexed := "000102030405060708090a0b0c0d0e0f7f80feff"
	l := []api.Entry{{Mode: api.ModeFile, Name: "a.b", Id: hexed}, {Mode: api.ModeDir, Name: "a", Id: hexed}, {Mode: api.ModeExec, Name: "b c", Id: hexed}, {Mode: api.ModeLink, Name: "é", Id: hexed}}
	want := "100644 a.b\x00" + raw + "40000 a\x00" + raw + "100755 b c\x00" + raw + "120000 \xc3\xa9\x00" + raw
	if got, e := tree.Body(l); got != want || e != api.OK {
		t.Errorf("Body = %q, %d", got, e)
	}
	expectParse(t, want, l, api.OK)
	if got, e := tree.Body(nil); got != "" || e != api.OK {
		t.Errorf("Body(nil) = %q, %d", got, e)
	}
}

// P15.3: each error, at the edges of its condition.
func TestParse(t *testing.T) {
	raw := strings.Repeat("\x0a", 20)
	hexed := strings.Repeat("0a", 20)
	one := func(mode int, name string) []api.Entry { return []api.Entry{{Mode: mode, Name: name, Id: hexed}} }
	for _, c := range []struct {
		s    string
		want []api.Entry
		e    api.Errno
	}{
		{"", nil, api.OK},
		{"100644 a\x00" + raw, one(1, "a"), api.OK},
		{"100755 a\x00" + raw, one(2, "a"), api.OK},
		{"120000 a\x00" + raw, one(3, "a"), api.OK},
		{"40000 a\x00" + raw, one(4, "a"), api.OK},
		{"40000  a \x00" + raw, one(4, " a "), api.OK},
		{"40000 a\x00" + strings.Repeat("\x00", 20), []api.Entry{{Mode: 4, Name: "a", Id: strings.Repeat("0", 40)}}, api.OK},

		{"1", nil, api.ErrTruncated},
		{"10", nil, api.ErrTruncated},
		{"12", nil, api.ErrTruncated},
		{"4", nil, api.ErrTruncated},
		{"1006", nil, api.ErrTruncated},
		{"1007", nil, api.ErrTruncated},
		{"100644", nil, api.ErrTruncated},
		{"100755", nil, api.ErrTruncated},
		{"120000", nil, api.ErrTruncated},
		{"40000", nil, api.ErrTruncated},
		{"100644 ", nil, api.ErrTruncated},
		{"40000 ", nil, api.ErrTruncated},
		{"40000 a", nil, api.ErrTruncated},
		{"40000 a\x00", nil, api.ErrTruncated},
		{"40000 a\x00" + raw[1:], nil, api.ErrTruncated},
		{"40000 \x00" + raw[1:], nil, api.ErrTruncated},
		{"40000 a/b\x00" + raw[1:], nil, api.ErrTruncated},
		{"40000 a" + raw + raw, nil, api.ErrTruncated},
		{"40000 a\x00" + raw + "1", nil, api.ErrTruncated},
		{"40000 \x00" + raw + "100644 a\x00" + raw[1:], nil, api.ErrTruncated},

		{" ", nil, api.ErrSyntax},
		{"0", nil, api.ErrSyntax},
		{"2", nil, api.ErrSyntax},
		{"11", nil, api.ErrSyntax},
		{"\x00", nil, api.ErrSyntax},
		{"a", nil, api.ErrSyntax},
		{"040000 a\x00" + raw, nil, api.ErrSyntax},
		{"40000a\x00" + raw, nil, api.ErrSyntax},
		{"40000\x00" + raw, nil, api.ErrSyntax},
		{"40000\ta\x00" + raw, nil, api.ErrSyntax},
		{"400000 a\x00" + raw, nil, api.ErrSyntax},
		{"4000 a\x00" + raw, nil, api.ErrSyntax},
		{"100645 a\x00" + raw, nil, api.ErrSyntax},
		{"100664 a\x00" + raw, nil, api.ErrSyntax},
		{"160000 a\x00" + raw, nil, api.ErrSyntax},
		{" 40000 a\x00" + raw, nil, api.ErrSyntax},
		{"40000 a\x00" + raw + "x", nil, api.ErrSyntax},
		{"40000 a\x00" + raw + "\n", nil, api.ErrSyntax},
		{"40000 a\x00" + raw + "\x0a", nil, api.ErrSyntax},
		{"40000 \x00" + raw + "x", nil, api.ErrSyntax},

		{"40000 \x00" + raw, nil, api.ErrInvalid},
		{"40000 .\x00" + raw, nil, api.ErrInvalid},
		{"40000 a/b\x00" + raw, nil, api.ErrInvalid},
		{"40000 a\n\x00" + raw, nil, api.ErrInvalid},
		{"40000 " + strings.Repeat("a", 65) + "\x00" + raw, nil, api.ErrInvalid},
		{"40000 " + strings.Repeat("a", 64) + "\x00" + raw, one(4, strings.Repeat("a", 64)), api.OK},
		{"40000 b\x00" + raw + "40000 a\x00" + raw, nil, api.ErrUnsorted},
		{"40000 a\x00" + raw + "40000 a\x00" + raw, nil, api.ErrUnsorted},
		{"100644 a\x00" + raw + "40000 a\x00" + raw, nil, api.ErrDuplicate},
		{"100644 a\x00" + raw + "100644 a!\x00" + raw + "40000 a\x00" + raw, nil, api.ErrDuplicate},
		{"40000 b\x00" + raw + "40000 a\x00" + raw + "40000 \x00" + raw, nil, api.ErrUnsorted},
	} {
		expectParse(t, c.s, c.want, c.e)
	}
}

// P15.3: all strings of a few pieces, against a plain reference.
func TestPieces(t *testing.T) {
	raw := strings.Repeat("x", 20)
	pieces := []string{"1", "0", "4", " ", "a", "b", "\x00", "100644", "40000 ", "120000 a\x00" + raw, raw, "/"}
	all := []string{""}
	for start, size := 0, 0; size < 5; size++ {
		end := len(all)
		for _, s := range all[start:end] {
			for _, p := range pieces {
				all = append(all, s+p)
			}
		}
		start = end
	}
	for _, s := range all {
		want, e := plainParse(s)
		expectParse(t, s, want, e)
	}
}

// P15.3, P15.8: bodies with one byte changed, taken out or put in, and their beginnings, against a plain reference; whatever Parse takes, Body gives back.
func TestMutants(t *testing.T) {
	expect := func(s string) {
		t.Helper()
		want, e := plainParse(s)
		expectParse(t, s, want, e)
		if e == api.OK {
			if back, e := tree.Body(want); back != s || e != api.OK {
				t.Errorf("Body(Parse(%q)) = %q, %d", s, back, e)
			}
		}
	}
	for _, l := range [][]api.Entry{
		{entry(1, "a")},
		{entry(4, "a")},
		{entry(2, "a"), entry(3, "a-"), entry(4, "a.")},
		{entry(4, "a"), entry(1, "a0"), entry(4, "b")},
	} {
		s := plainBody(l)
		for at := range len(s) + 1 {
			expect(s[:at])
			expect(s[at:])
			for b := range 256 {
				expect(s[:at] + string([]byte{byte(b)}) + s[at:])
				if at < len(s) {
					expect(s[:at] + string([]byte{byte(b)}) + s[at+1:])
				}
			}
			if at < len(s) {
				expect(s[:at] + s[at+1:])
			}
		}
	}
}

// P15.4 to P15.6: all lists of a few entries, sorted or not, with names that occur several times, against plain references.
func TestEdits(t *testing.T) {
	some := []api.Entry{entry(1, "a"), entry(4, "a"), entry(1, "a."), entry(4, "b"), {}}
	put := append(slices.Clone(some), entry(3, "a"), entry(1, "Z"), entry(4, "z"), entry(9, "a/"), entry(4, ""))
	for _, l := range lists(some, 4) {
		for _, e := range put {
			if got, want := tree.Put(l, e), plainPut(l, e); !slices.Equal(got, want) {
				t.Errorf("Put(%v, %v) = %v, want %v", l, e, got, want)
			}
			if got, want := tree.Drop(l, e.Name), plainDrop(l, e.Name); !slices.Equal(got, want) {
				t.Errorf("Drop(%v, %q) = %v, want %v", l, e.Name, got, want)
			}
			var want api.Entry
			ok := false
			for i := len(l) - 1; i >= 0; i-- {
				if l[i].Name == e.Name {
					want, ok = l[i], true
				}
			}
			if got, found := tree.Find(l, e.Name); got != want || found != ok {
				t.Errorf("Find(%v, %q) = %v, %t, want %v, %t", l, e.Name, got, found, want, ok)
			}
		}
	}
}

// P15.4, P15.6: a directory is found by its name, not by its sort key, and names are compared whole.
func TestNames(t *testing.T) {
	l := []api.Entry{entry(4, "a"), entry(1, "ab")}
	for _, name := range []string{"a/", "", "A", "b", "abc", "a\x00"} {
		if got, ok := tree.Find(l, name); ok || got != (api.Entry{}) {
			t.Errorf("Find(%q) = %v, %t", name, got, ok)
		}
		if got := tree.Drop(l, name); !slices.Equal(got, l) {
			t.Errorf("Drop(%q) = %v", name, got)
		}
	}
	if got, ok := tree.Find(l, "a"); !ok || got != l[0] {
		t.Errorf("Find(a) = %v, %t", got, ok)
	}
}

// P15.5: Put takes lists that are no trees, too long ones among them.
func TestPutLong(t *testing.T) {
	l := many(api.MaxEntries + 5)
	slices.Reverse(l)
	for _, e := range []api.Entry{entry(1, "a"), entry(1, "z"), entry(4, l[7].Name), {}} {
		if got, want := tree.Put(l, e), plainPut(l, e); !slices.Equal(got, want) {
			t.Errorf("Put of %v differs", e)
		}
	}
}

// P15.5, P15.6: an argument stays as it is, beyond its length, too, and shares nothing with the answer.
func TestArguments(t *testing.T) {
	for size := range 4 {
		room := make([]api.Entry, 0, 8)
		room = append(room, many(size)...)
		spare := room[size:cap(room)]
		for i := range spare {
			spare[i] = entry(2, "spare")
		}
		before := slices.Clone(room[:cap(room)])
		for _, name := range []string{"a", "z", "n0000", "n0001", "n0002"} {
			for _, out := range [][]api.Entry{tree.Put(room, entry(1, name)), tree.Drop(room, name)} {
				out = out[:cap(out)]
				for i := range out {
					out[i] = entry(3, "written over")
				}
				if !slices.Equal(room[:cap(room)], before) {
					t.Fatalf("an edit of %d entries with %q reaches the argument", size, name)
				}
			}
		}
		tree.Check(room)
		tree.Body(room)
		tree.Find(room, "n0001")
		if !slices.Equal(room[:cap(room)], before) {
			t.Fatalf("a call changes its argument of %d entries", size)
		}
	}
}

// P15.7, P15.10: all pairs of some entries, against the sort key by the letter; exactly one of two that differ in their names is less.
func TestLess(t *testing.T) {
	var some []api.Entry
	for _, name := range []string{"", "a", "a.", "a.b", "a0", "aa", "a b", "a!", "b", "B", "\x7f", "\x80", "\xff", "é", "ab.c", "ab"} {
		for mode := range octal {
			some = append(some, entry(mode, name))
		}
	}
	for _, a := range some {
		for _, b := range some {
			less, more := tree.Less(a, b), tree.Less(b, a)
			if want := plainKey(a) < plainKey(b); less != want {
				t.Errorf("Less(%v, %v) = %t", a, b, less)
			}
			if a.Name != b.Name && less == more {
				t.Errorf("Less(%v, %v) = %t both ways", a, b, less)
			}
			if a.Name == b.Name && (a.Mode == 4) == (b.Mode == 4) && (less || more) {
				t.Errorf("Less tells %v and %v apart", a, b)
			}
		}
	}
	file, dir := entry(1, "a"), entry(4, "a")
	if !tree.Less(file, dir) || tree.Less(dir, file) {
		t.Errorf("a file must sort ahead of the directory of its name")
	}
	if !tree.Less(entry(1, "a.b"), dir) || tree.Less(dir, entry(1, "a.b")) {
		t.Errorf("a.b must sort ahead of the directory a")
	}
	for _, mode := range []int{-4, 0, 1, 2, 3, 5, 8, 260} { // only directories have the slash
		if e := (api.Entry{Mode: mode, Name: "a"}); !tree.Less(e, dir) || tree.Less(e, file) || tree.Less(file, e) {
			t.Errorf("an entry of mode %d has a wrong sort key", mode)
		}
	}
}

// P15.8, P15.9: trees built by Put in any order are trees, and are read back; each Put and Drop leaves the others alone.
func TestGrown(t *testing.T) {
	pick := draw(15)
	names := []string{"a", "a.", "a.b", "a0", "ab", "b", "b-", "b0", "c", "~", "\xff", "é"}
	for range 3000 {
		var l []api.Entry
		set := make(map[string]api.Entry)
		for range pick(20) {
			e := api.Entry{Mode: 1 + pick(4), Name: names[pick(len(names))], Id: id(pick(4096))}
			if pick(4) == 0 {
				l = tree.Drop(l, e.Name)
				delete(set, e.Name)
			} else {
				l = tree.Put(l, e)
				set[e.Name] = e
				if again := tree.Put(l, e); !slices.Equal(again, l) {
					t.Fatalf("Put(%v, %v) = %v", l, e, again)
				}
			}
			for _, name := range names {
				want, ok := set[name]
				if got, found := tree.Find(l, name); got != want || found != ok {
					t.Fatalf("Find(%v, %q) = %v, %t, want %v, %t", l, name, got, found, want, ok)
				}
			}
			if e := tree.Check(l); e != api.OK || len(l) != len(set) {
				t.Fatalf("Check(%v) = %d", l, e)
			}
		}
		if !slices.IsSortedFunc(l, func(a, b api.Entry) int { return cmp.Compare(plainKey(a), plainKey(b)) }) {
			t.Fatalf("%v isn't sorted", l)
		}
		body, e := tree.Body(l)
		if e != api.OK {
			t.Fatalf("Body(%v) = %d", l, e)
		}
		expectParse(t, body, l, api.OK)
	}
}

// P15.9: a tree of MaxEntries entries takes no further name, but a new entry of a name that it has.
func TestPutFull(t *testing.T) {
	l := many(api.MaxEntries)
	if e := tree.Check(tree.Put(l, entry(1, "new"))); e != api.ErrTooLarge {
		t.Errorf("a tree with an entry too many: %d", e)
	}
	for _, mode := range []int{1, 4} {
		if e := tree.Check(tree.Put(l, entry(mode, l[500].Name))); e != api.OK {
			t.Errorf("a full tree with an entry replaced: %d", e)
		}
	}
}

// P15.3: a long body is read in time that grows with its length alone.
func TestLongBody(t *testing.T) {
	one := plainBody([]api.Entry{entry(4, "a")})
	s := strings.Repeat(one, (8<<20)/len(one))
	expectParse(t, s, nil, api.ErrTooLarge)
	expectParse(t, s+"4", nil, api.ErrTruncated)
	expectParse(t, "40000 "+strings.Repeat("a", 8<<20), nil, api.ErrTruncated)
	expectParse(t, "40000 "+strings.Repeat("a", 8<<20)+"\x00"+strings.Repeat("a", 20), nil, api.ErrInvalid)
}
