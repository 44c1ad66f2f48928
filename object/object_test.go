package object_test

import (
	"crypto/sha256"
	"encoding/hex"
	"math"
	"regexp"
	"strconv"
	"strings"
	"testing"

	"graftage/api"
	"graftage/ident"
	"graftage/object"
)

// names holds the type names that the document gives to the kinds.
var names = map[int]string{1: "blob", 2: "tree", 3: "commit", 4: "tag"}

// strange lists integers that are no kinds.
var strange = []int{math.MinInt, math.MinInt32, -256, -4, -3, -2, -1, 0, 5, 6, 7, 8, 255, 256, 257, math.MaxInt32, math.MaxInt}

// bodies lists bodies of all sorts, the longest ones that are valid among them.
func bodies() []string {
	long := strings.Repeat("0123456789abcdef", api.MaxBytes/16)
	return []string{
		"", "a", "\x00", "\n", " ", "0", "blob 0\x00", "tag 1\x00x", "a\nb\n", "\xff\xfe\x80", "é",
		strings.Repeat("x", 9), strings.Repeat("x", 10), strings.Repeat("\x00", 99), strings.Repeat("y", 100), strings.Repeat(" ", 999),
		strings.Repeat("z", 1000), strings.Repeat("z", 9999), strings.Repeat("z", 10000), strings.Repeat("z", 99999), strings.Repeat("z", 100000),
		strings.Repeat("z", 999999), strings.Repeat("z", 1000000), long[1:], long,
	}
}

// plainBytes lays an encoding out.
func plainBytes(o api.Object) string {
	return strings.Join([]string{names[o.Kind], " ", strconv.Itoa(len(o.Body)), "\x00", o.Body}, "")
}

// plainId hashes an encoding with a library of Go's.
func plainId(o api.Object) string {
	sum := sha256.Sum256([]byte(plainBytes(o)))
	return hex.EncodeToString(sum[:20])
}

// head tells what an encoding begins with.
var head = regexp.MustCompile("^(blob|tree|commit|tag) (0|[1-9][0-9]{0,6})\x00")

// plainParse follows P14.2, in its order.
func plainParse(s string) (api.Object, api.Errno) {
	m := head.FindStringSubmatch(s)
	if m == nil {
		return api.Object{}, api.ErrSyntax
	}
	kind := 0
	for k, name := range names {
		if name == m[1] {
			kind = k
		}
	}
	size, _ := strconv.Atoi(m[2])
	rest := s[len(m[0]):]
	if size > api.MaxBytes {
		return api.Object{}, api.ErrTooLarge
	}
	if len(rest) < size {
		return api.Object{}, api.ErrTruncated
	}
	if len(rest) > size {
		return api.Object{}, api.ErrSyntax
	}
	return api.Object{Kind: kind, Body: rest}, api.OK
}

// expectParse fails unless Parse answers just this.
func expectParse(t *testing.T, s string, want api.Object, code api.Errno) {
	t.Helper()
	if got, e := object.Parse(s); got.Kind != want.Kind || got.Body != want.Body || e != code {
		t.Errorf("Parse(%.60q) = {%d %.60q}, %d, want {%d %.60q}, %d", s, got.Kind, got.Body, e, want.Kind, want.Body, code)
	}
}

// P14.1: the layout of an encoding.
func TestBytes(t *testing.T) {
	for _, c := range []struct {
		o    api.Object
		want string
	}{
		{api.Object{Kind: api.Blob}, "blob 0\x00"},
		{api.Object{Kind: api.Blob, Body: "a"}, "blob 1\x00a"},
		{api.Object{Kind: api.Tree, Body: "\x00"}, "tree 1\x00\x00"},
		{api.Object{Kind: api.Commits, Body: "0123456789"}, "commit 10\x000123456789"},
		{api.Object{Kind: api.Tags, Body: "é"}, "tag 2\x00\xc3\xa9"},
	} {
		if got, e := object.Bytes(c.o); got != c.want || e != api.OK {
			t.Errorf("Bytes(%v) = %q, %d, want %q", c.o, got, e, c.want)
		}
	}
	for kind := range names {
		for _, body := range bodies() {
			o := api.Object{Kind: kind, Body: body}
			if got, e := object.Bytes(o); got != plainBytes(o) || e != api.OK {
				t.Errorf("Bytes({%d, %d bytes}) = %.60q, %d", kind, len(body), got, e)
			}
		}
	}
}

// P14.1, P14.3: objects that aren't valid; a wrong kind goes ahead of a long body.
func TestInvalid(t *testing.T) {
	long := strings.Repeat("x", api.MaxBytes+1)
	check := func(o api.Object, code api.Errno) {
		t.Helper()
		if got, e := object.Bytes(o); got != "" || e != code {
			t.Errorf("Bytes({%d, %d bytes}) = %.60q, %d, want %d", o.Kind, len(o.Body), got, e, code)
		}
		if got := object.Id(o); got != "" {
			t.Errorf("Id({%d, %d bytes}) = %q", o.Kind, len(o.Body), got)
		}
	}
	for kind := range names {
		check(api.Object{Kind: kind, Body: long}, api.ErrTooLarge)
		check(api.Object{Kind: kind, Body: long + long}, api.ErrTooLarge)
	}
	for _, kind := range strange {
		check(api.Object{Kind: kind}, api.ErrKind)
		check(api.Object{Kind: kind, Body: "a"}, api.ErrKind)
		check(api.Object{Kind: kind, Body: long}, api.ErrKind)
	}
}

// P14.2: each error, at the edges of its condition.
func TestParse(t *testing.T) {
	full := strings.Repeat("x", api.MaxBytes)
	none := api.Object{}
	for _, c := range []struct {
		s    string
		want api.Object
		e    api.Errno
	}{
		{"blob 0\x00", api.Object{Kind: api.Blob}, api.OK},
		{"tree 1\x00\x00", api.Object{Kind: api.Tree, Body: "\x00"}, api.OK},
		{"commit 2\x00\n\n", api.Object{Kind: api.Commits, Body: "\n\n"}, api.OK},
		{"tag 10\x00blob 3\x00abc", api.Object{Kind: api.Tags, Body: "blob 3\x00abc"}, api.OK},
		{"blob 1048576\x00" + full, api.Object{Kind: api.Blob, Body: full}, api.OK},

		{"", none, api.ErrSyntax},
		{"\x00", none, api.ErrSyntax},
		{" ", none, api.ErrSyntax},
		{" 0\x00", none, api.ErrSyntax},
		{"blob", none, api.ErrSyntax},
		{"blob ", none, api.ErrSyntax},
		{"blob \x00", none, api.ErrSyntax},
		{"blob\x00", none, api.ErrSyntax},
		{"blob\x000", none, api.ErrSyntax},
		{"blob 0", none, api.ErrSyntax},
		{"blob 0 \x00", none, api.ErrSyntax},
		{"blob  0\x00", none, api.ErrSyntax},
		{" blob 0\x00", none, api.ErrSyntax},
		{"blob\t0\x00", none, api.ErrSyntax},
		{"blob0\x00", none, api.ErrSyntax},
		{"blob 0\n\x00", none, api.ErrSyntax},
		{"blob 00\x00", none, api.ErrSyntax},
		{"blob 01\x00a", none, api.ErrSyntax},
		{"blob 0000000\x00", none, api.ErrSyntax},
		{"blob +1\x00a", none, api.ErrSyntax},
		{"blob -0\x00", none, api.ErrSyntax},
		{"blob -1\x00a", none, api.ErrSyntax},
		{"blob -1\x00", none, api.ErrSyntax},
		{"blob 1_0\x000123456789", none, api.ErrSyntax},
		{"blob 0x1\x00a", none, api.ErrSyntax},
		{"blob 1a\x00a", none, api.ErrSyntax},
		{"blob 1.\x00a", none, api.ErrSyntax},
		{"blob ٣\x00abc", none, api.ErrSyntax},
		{"Blob 0\x00", none, api.ErrSyntax},
		{"blobs 0\x00", none, api.ErrSyntax},
		{"blo 0\x00", none, api.ErrSyntax},
		{"commits 0\x00", none, api.ErrSyntax},
		{"tags 0\x00", none, api.ErrSyntax},
		{"1 0\x00", none, api.ErrSyntax},

		{"blob 9999999\x00", none, api.ErrTooLarge},
		{"tag 1048577\x00", none, api.ErrTooLarge},
		{"blob 1048577\x00" + full + "x", none, api.ErrTooLarge},
		{"blob 1048577\x00" + full, none, api.ErrTooLarge},
		{"blob 1048577\x00" + full + "xx", none, api.ErrTooLarge},
		{"blob 10000000\x00", none, api.ErrSyntax},
		{"blob 10485760\x00" + full, none, api.ErrSyntax},
		{"blob 01048577\x00", none, api.ErrSyntax},
		{"blob 9223372036854775808\x00", none, api.ErrSyntax},
		{"blob 18446744073709551616\x00", none, api.ErrSyntax},
		{"blob 1048577", none, api.ErrSyntax},

		{"blob 1\x00", none, api.ErrTruncated},
		{"commit 1048576\x00", none, api.ErrTruncated},
		{"blob 1048576\x00" + full[1:], none, api.ErrTruncated},
		{"tree 3\x00ab", none, api.ErrTruncated},

		{"blob 0\x00\x00", none, api.ErrSyntax},
		{"blob 1\x00ab", none, api.ErrSyntax},
		{"blob 1048576\x00" + full + "x", none, api.ErrSyntax},
		{"blob 0\x00blob 0\x00", none, api.ErrSyntax},
	} {
		expectParse(t, c.s, c.want, c.e)
	}
}

// P14.2: all strings of a few pieces, against a plain reference.
func TestPieces(t *testing.T) {
	pieces := []string{"blob", "tree", "commit", "tag", "b", " ", "\x00", "0", "1", "2", "-", "104857", "6", "\n"}
	all := []string{""}
	for start, size := 0, 0; size < 5; size++ {
		end := len(all)
		for _, s := range all[start:end] {
			for _, p := range pieces {
				all = append(all, s+p)
			}
		}
		start = end
	}
	for _, s := range all {
		want, e := plainParse(s)
		expectParse(t, s, want, e)
	}
}

// P14.2, P14.6: encodings with one byte changed, taken out or put in, against a plain reference.
func TestMutants(t *testing.T) {
	for kind := range names {
		for _, body := range []string{"", "a", "0123456789", strings.Repeat("x ", 50)} {
			s, _ := object.Bytes(api.Object{Kind: kind, Body: body})
			for at := range len(s) + 1 {
				for b := range 256 {
					put := s[:at] + string([]byte{byte(b)}) + s[at:]
					want, e := plainParse(put)
					expectParse(t, put, want, e)
					if at < len(s) {
						changed := s[:at] + string([]byte{byte(b)}) + s[at+1:]
						want, e = plainParse(changed)
						expectParse(t, changed, want, e)
					}
				}
				if at < len(s) {
					short := s[:at] + s[at+1:]
					want, e := plainParse(short)
					expectParse(t, short, want, e)
				}
				want, e := plainParse(s[:at])
				expectParse(t, s[:at], want, e)
			}
		}
	}
}

// P14.3: the example, and IDs against Go's own hash.
func TestId(t *testing.T) {
	if got, want := object.Id(api.Object{Kind: api.Blob}), "473a0f4c3be8a93681a267e3b1e9a7dcda118543"; got != want {
		t.Errorf("the ID of the empty blob is %q, want %q", got, want)
	}
	met := make(map[string]api.Object)
	for kind := range names {
		for _, body := range bodies() {
			o := api.Object{Kind: kind, Body: body}
			id := object.Id(o)
			if id != plainId(o) || !ident.Is(id) {
				t.Errorf("Id({%d, %d bytes}) = %q, want %q", kind, len(body), id, plainId(o))
			}
			if other, ok := met[id]; ok {
				t.Errorf("{%d, %d bytes} and {%d, %d bytes} have one ID", kind, len(body), other.Kind, len(other.Body))
			}
			met[id] = o
		}
	}
}

// P14.4: kinds and type names, and whatever is neither.
func TestWords(t *testing.T) {
	for kind, name := range names {
		if got := object.Word(kind); got != name {
			t.Errorf("Word(%d) = %q, want %q", kind, got, name)
		}
		if got := object.Kind(name); got != kind {
			t.Errorf("Kind(%q) = %d, want %d", name, got, kind)
		}
		for _, s := range []string{name + " ", " " + name, name + "s", name[1:], name[:len(name)-1], strings.ToUpper(name), name + name, name + "\x00", name + "\n", strconv.Itoa(kind)} {
			if got := object.Kind(s); got != 0 {
				t.Errorf("Kind(%q) = %d", s, got)
			}
		}
	}
	for _, kind := range strange {
		if got := object.Word(kind); got != "" {
			t.Errorf("Word(%d) = %q", kind, got)
		}
	}
	for kind := -1000; kind <= 1000; kind++ {
		if got := object.Word(kind); got != names[kind] {
			t.Errorf("Word(%d) = %q, want %q", kind, got, names[kind])
		}
	}
	for _, s := range []string{"", " ", "\x00", "a", "object", "delta"} {
		if got := object.Kind(s); got != 0 {
			t.Errorf("Kind(%q) = %d", s, got)
		}
	}
}

// P14.5: all pairs out of a few kinds and bodies; kinds that aren't valid and bodies that are too long are compared, too.
func TestSame(t *testing.T) {
	long := strings.Repeat("x", api.MaxBytes+1)
	kinds := append([]int{1, 2, 3, 4}, strange...)
	texts := []string{"", "a", "b", "ab", "a\x00", "A", long, long[1:] + "y"}
	var others []string // the same, elsewhere in memory
	for _, s := range texts {
		others = append(others, strings.Clone(s))
	}
	for _, k := range kinds {
		for _, n := range kinds {
			for i, x := range texts {
				for j, y := range others {
					a, b := api.Object{Kind: k, Body: x}, api.Object{Kind: n, Body: y}
					if got, want := object.Same(a, b), k == n && i == j; got != want {
						t.Errorf("Same({%d %.9q}, {%d %.9q}) = %t", k, x, n, y, got)
					}
				}
			}
		}
	}
}

// P14.6: Parse and Bytes invert each other, and no two objects have one encoding.
func TestRoundTrip(t *testing.T) {
	met := make(map[string]bool)
	for kind := range names {
		for _, body := range bodies() {
			o := api.Object{Kind: kind, Body: body}
			s, e := object.Bytes(o)
			if e != api.OK || met[s] {
				t.Errorf("Bytes({%d, %d bytes}) = %.60q, %d, which is met: %t", kind, len(body), s, e, met[s])
			}
			met[s] = true
			got, e := object.Parse(s)
			if e != api.OK || !object.Same(got, o) {
				t.Errorf("Parse(%.60q) = {%d, %d bytes}, %d", s, got.Kind, len(got.Body), e)
			}
			if again, e := object.Bytes(got); again != s || e != api.OK {
				t.Errorf("Bytes(Parse(%.60q)) = %.60q, %d", s, again, e)
			}
		}
	}
}
