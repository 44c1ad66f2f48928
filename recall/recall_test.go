package recall_test

import (
	"crypto/sha256"
	"encoding/hex"
	"math"
	"reflect"
	"slices"
	"sort"
	"strconv"
	"strings"
	"testing"
	"time"

	"graftage/api"
	"graftage/ident"
	"graftage/recall"
	"graftage/three"
)

// draw returns numbers below n that depend on seed alone.
func draw(seed uint64) func(n int) int {
	return func(n int) int {
		seed = seed*6364136223846793005 + 1442695040888963407
		return int((seed >> 33) % uint64(n))
	}
}

// fed returns a list with a line for each byte of s, each with a line feed.
func fed(s string) []string {
	var l []string
	for _, b := range []byte(s) {
		l = append(l, string([]byte{b, '\n'}))
	}
	return l
}

// clean returns a clean region.
func clean(l ...string) api.Region {
	return api.Region{Kind: api.RegionClean, Lines: l}
}

// conflict returns a conflict, with a line for each byte.
func conflict(ours, base, theirs string) api.Region {
	return api.Region{Kind: api.RegionConflict, Ours: fed(ours), Base: fed(base), Theirs: fed(theirs)}
}

// numbered returns a conflict that differs from those with other numbers.
func numbered(n int) api.Region {
	return api.Region{Kind: api.RegionConflict, Ours: []string{strconv.Itoa(n) + "\n"}}
}

// key returns the key of a conflict.
func key(t *testing.T, r api.Region) string {
	t.Helper()
	k, ok := recall.Key(r)
	if !ok {
		t.Fatalf("Key(%v) answers false", r)
	}
	return k
}

// id returns an object ID that begins with a number of four digits.
func id(n int) string {
	head := strconv.Itoa(n)
	return strings.Repeat("0", 4-len(head)) + head + strings.Repeat("ab", 18)
}

// many returns n valid memos, each of its own time.
func many(n int) []api.Resolution {
	var m []api.Resolution
	for i := range n {
		m = append(m, api.Resolution{Key: id(i), Lines: []string{strconv.Itoa(i) + "\n", "x"}, Time: i})
	}
	return m
}

// sameMemos reports whether two lists of memos are equal; a nil list is an empty one.
func sameMemos(a, b []api.Resolution) bool {
	return slices.EqualFunc(a, b, func(x, y api.Resolution) bool {
		return x.Key == y.Key && slices.Equal(x.Lines, y.Lines) && x.Time == y.Time
	})
}

// sameRegions reports whether two lists of regions are equal; a nil list is an empty one.
func sameRegions(a, b []api.Region) bool {
	return slices.EqualFunc(a, b, func(x, y api.Region) bool {
		return x.Kind == y.Kind && slices.Equal(x.Lines, y.Lines) && slices.Equal(x.Ours, y.Ours) && slices.Equal(x.Base, y.Base) && slices.Equal(x.Theirs, y.Theirs)
	})
}

// swapped returns the regions with the sides of each conflict exchanged.
func swapped(l []api.Region) []api.Region {
	out := slices.Clone(l)
	for i := range out {
		out[i].Ours, out[i].Theirs = out[i].Theirs, out[i].Ours
	}
	return out
}

// sets lists memos by their keys: what the plain references work on.
func sets(m []api.Resolution) map[string]api.Resolution {
	set := make(map[string]api.Resolution)
	for _, memo := range m {
		set[memo.Key] = memo
	}
	return set
}

// inOrder returns the memos of a set, by their keys.
func inOrder(set map[string]api.Resolution) []api.Resolution {
	var m []api.Resolution
	for _, memo := range set {
		m = append(m, memo)
	}
	sort.Slice(m, func(i, k int) bool { return m[i].Key < m[k].Key })
	return m
}

// plainKey lays a key out, with a library of Go's.
func plainKey(r api.Region) string {
	a, b := strings.Join(r.Ours, ""), strings.Join(r.Theirs, "")
	sides := []string{strconv.Itoa(len(a)) + " " + a, strconv.Itoa(len(b)) + " " + b}
	sort.Strings(sides)
	sum := sha256.Sum256([]byte(sides[0] + sides[1]))
	return hex.EncodeToString(sum[:20])
}

// P13.1: the layout of a key, against values made elsewhere.
func TestKey(t *testing.T) {
	for _, c := range []struct {
		r    api.Region
		want string // the hash of what
	}{
		{conflict("x", "", "y"), "2 x\n2 y\n"},
		{conflict("y", "", "x"), "2 x\n2 y\n"},
		{conflict("x", "b", "x"), "2 x\n2 x\n"},
		{conflict("", "b", ""), "0 0 "},
		{conflict("", "", "a"), "0 2 a\n"},
		{conflict("a", "", ""), "0 2 a\n"},
		{conflict("aaaaa", "", "b"), "10 a\na\na\na\na\n2 b\n"},
		{conflict("b", "", "aaaaa"), "10 a\na\na\na\na\n2 b\n"},
		{conflict("bbbbb", "", "a"), "10 b\nb\nb\nb\nb\n2 a\n"},
		{conflict("a", "", "bbbbb"), "10 b\nb\nb\nb\nb\n2 a\n"},
		{api.Region{Kind: api.RegionConflict, Ours: []string{"a"}, Theirs: []string{"a\n"}}, "1 a2 a\n"},
		{api.Region{Kind: api.RegionConflict, Ours: []string{"a\n"}, Theirs: []string{"a"}}, "1 a2 a\n"},
		{api.Region{Kind: api.RegionConflict, Ours: []string{"\xff"}, Theirs: []string{"\x00"}}, "1 \x001 \xff"},
		{api.Region{Kind: api.RegionConflict, Ours: []string{"a\n", "", "b"}, Theirs: nil}, "0 3 a\nb"},
		{api.Region{Kind: api.RegionConflict, Lines: []string{"q\n"}, Ours: []string{"x\n"}, Theirs: []string{"y\n"}}, "2 x\n2 y\n"},
	} {
		sum := sha256.Sum256([]byte(c.want))
		want := hex.EncodeToString(sum[:20])
		if got, ok := recall.Key(c.r); got != want || !ok {
			t.Errorf("Key(%v) = %q, %t, want the hash of %q", c.r, got, ok, c.want)
		}
	}
	if got := key(t, conflict("x", "", "y")); got != "14b31be98a5cb616f910a20b55f45ce9c686a28f" {
		t.Errorf("the key of x against y is %q", got)
	}
}

// P13.1: only a conflict has a key.
func TestNoKey(t *testing.T) {
	for _, kind := range []int{math.MinInt, -2, -1, 0, 1, 3, 4, 258, math.MaxInt} {
		for _, r := range []api.Region{{}, {Lines: []string{"a\n"}}, {Ours: []string{"a\n"}, Theirs: []string{"b\n"}}} {
			r.Kind = kind
			if got, ok := recall.Key(r); got != "" || ok {
				t.Errorf("Key(%v) = %q, %t", r, got, ok)
			}
		}
	}
}

// P13.1, P13.7: keys of all pairs of short sides: whichever is ours, whatever the base; unlike pairs have unlike keys.
func TestKeys(t *testing.T) {
	sides := []string{"", "a", "b", "ab", "ba", "1", "12", "abcab", "\n", " ", "0123456789"}
	met := make(map[string][2]string)
	for _, x := range sides {
		for _, y := range sides {
			r := conflict(x, "", y)
			k := key(t, r)
			if k != plainKey(r) || k != key(t, conflict(y, "base", x)) {
				t.Errorf("the key of %q and %q is %q", x, y, k)
			}
			pair := [2]string{min(x, y), max(x, y)}
			if other, ok := met[k]; ok && other != pair {
				t.Errorf("%q and %q have one key", other, pair)
			}
			met[k] = pair
		}
	}
	split := api.Region{Kind: api.RegionConflict, Ours: []string{"a\nb\n"}, Theirs: []string{"c\n"}}
	if key(t, split) != key(t, conflict("ab", "", "c")) {
		t.Error("the key hangs on how the lines are split")
	}
}

// valid lists memos that are valid, invalid such that aren't.
func valid() [][]api.Resolution {
	var long []string
	for range api.MaxLines {
		long = append(long, "a\n")
	}
	return [][]api.Resolution{
		nil, {}, many(1), many(2), many(api.MaxMemos),
		{{Key: id(1)}},
		{{Key: id(1), Lines: []string{}}},
		{{Key: id(1), Time: api.MaxTime}},
		{{Key: id(1), Time: 5}, {Key: id(2), Time: 3}},
		{{Key: strings.Repeat("0", 40)}, {Key: strings.Repeat("f", 40)}},
		{{Key: id(1), Lines: []string{"a"}}},
		{{Key: id(1), Lines: []string{"a\n"}}},
		{{Key: id(1), Lines: []string{"\n", "\n", "b"}}},
		{{Key: id(1), Lines: []string{"a\r\n", "\x00\n", "\xff"}}},
		{{Key: id(1), Lines: long}},
		{{Key: id(1), Lines: append(slices.Clone(long[1:]), "b")}},
		{{Key: id(1), Lines: []string{strings.Repeat("x", api.MaxBytes+1)}}},
	}
}

func invalid() [][]api.Resolution {
	var long []string
	for range api.MaxLines + 1 {
		long = append(long, "a\n")
	}
	last := many(api.MaxMemos)
	last[api.MaxMemos-1].Lines = []string{""}
	return [][]api.Resolution{
		many(api.MaxMemos + 1), last,
		{{}},
		{{Key: id(1)[1:]}},
		{{Key: id(1) + "0"}},
		{{Key: id(1)[:39] + "A"}},
		{{Key: id(1)[:39] + "g"}},
		{{Key: id(1), Time: -1}},
		{{Key: id(1), Time: api.MaxTime + 1}},
		{{Key: id(1), Time: math.MinInt}},
		{{Key: id(1), Time: math.MaxInt}},
		{{Key: id(1)}, {Key: id(1)}},
		{{Key: id(1), Lines: []string{"a\n"}, Time: 1}, {Key: id(1), Lines: []string{"b\n"}, Time: 2}},
		{{Key: id(2)}, {Key: id(1)}},
		{{Key: id(1)}, {Key: id(3)}, {Key: id(2)}},
		{{Key: id(1)}, {Key: "x"}},
		{{Key: id(1), Lines: []string{""}}},
		{{Key: id(1), Lines: []string{"a\n", ""}}},
		{{Key: id(1), Lines: []string{"", "a\n"}}},
		{{Key: id(1), Lines: []string{"a\nb\n"}}},
		{{Key: id(1), Lines: []string{"a\nb"}}},
		{{Key: id(1), Lines: []string{"\n\n"}}},
		{{Key: id(1), Lines: []string{"a", "b\n"}}},
		{{Key: id(1), Lines: []string{"a", "b"}}},
		{{Key: id(1), Lines: []string{"a\n", "b", "c\n"}}},
		{{Key: id(1), Lines: long}},
		{{Key: id(1)}, {Key: id(2)}, {Key: id(3), Time: -1}},
	}
}

// P13.5: each condition, at its edges.
func TestValid(t *testing.T) {
	for i, m := range valid() {
		if !recall.Valid(m) {
			t.Errorf("valid list %d isn't: %.200v", i, m)
		}
	}
	for i, m := range invalid() {
		if recall.Valid(m) {
			t.Errorf("invalid list %d is valid: %.200v", i, m)
		}
	}
}

// P13.4, P13.8: memos of all times, each bound ahead of and behind them.
func TestDrop(t *testing.T) {
	m := []api.Resolution{{Key: id(1), Time: 5, Lines: []string{"a\n"}}, {Key: id(2), Time: 0}, {Key: id(3), Time: 7, Lines: []string{"b"}}, {Key: id(4), Time: 5}, {Key: id(5), Time: api.MaxTime}}
	for _, c := range []struct {
		before int
		want   []int
	}{
		{math.MinInt, []int{0, 1, 2, 3, 4}}, {-1, []int{0, 1, 2, 3, 4}}, {0, []int{0, 1, 2, 3, 4}},
		{1, []int{0, 2, 3, 4}}, {5, []int{0, 2, 3, 4}}, {6, []int{2, 4}}, {7, []int{2, 4}}, {8, []int{4}},
		{api.MaxTime, []int{4}}, {api.MaxTime + 1, nil}, {math.MaxInt, nil},
	} {
		var want []api.Resolution
		for _, i := range c.want {
			want = append(want, m[i])
		}
		if got := recall.Drop(m, c.before); !sameMemos(got, want) {
			t.Errorf("Drop(%d) = %v, want %v", c.before, got, want)
		}
	}
	for _, m := range valid() {
		if got := recall.Drop(m, 0); !sameMemos(got, m) {
			t.Errorf("Drop(0) = %.200v, want %.200v", got, m)
		}
	}
	for i, m := range invalid() {
		for _, before := range []int{math.MinInt, 0, 3, math.MaxInt} {
			if got := recall.Drop(m, before); !sameMemos(got, m) {
				t.Errorf("Drop of the invalid list %d = %.200v, want it unchanged", i, got)
			}
		}
	}
}

// plainParts finds the resolutions in a text of single letters, or answers false; "?" stands for a conflict.
func plainParts(l []string, solved string) ([]string, bool) {
	if len(l) == 0 {
		return nil, solved == ""
	}
	if len(l) == 1 {
		return []string{solved}, l[0] == "?" || l[0] == solved
	}
	var parts []string
	rest := solved
	if first := l[0]; first != "?" {
		if !strings.HasPrefix(rest, first) {
			return nil, false
		}
		rest = rest[len(first):]
		l = l[1:]
	}
	tail := l[len(l)-1]
	if tail != "?" {
		if !strings.HasSuffix(rest, tail) {
			return nil, false
		}
		rest = rest[:len(rest)-len(tail)]
		l = l[:len(l)-1]
	}
	for _, middle := range l {
		if middle != "?" {
			before, behind, ok := strings.Cut(rest, middle)
			if !ok {
				return nil, false
			}
			parts, rest = append(parts, before), behind
		}
	}
	return append(parts, rest), true
}

// strung returns all strings of at most most bytes out of some.
func strung(some string, most int) []string {
	all := []string{""}
	for start, size := 0, 0; size < most; size++ {
		end := len(all)
		for _, s := range all[start:end] {
			for _, b := range []byte(some) {
				all = append(all, s+string([]byte{b}))
			}
		}
		start = end
	}
	return all
}

// alternating returns all lists of at most most clean texts and conflicts that alternate.
func alternating(texts []string, most int) [][]string {
	all := [][]string{nil}
	for start, size := 0, 0; size < most; size++ {
		end := len(all)
		for _, l := range all[start:end] {
			if len(l) == 0 || l[len(l)-1] != "?" {
				all = append(all, append(slices.Clone(l), "?"))
			}
			if len(l) == 0 || l[len(l)-1] == "?" {
				for _, s := range texts {
					all = append(all, append(slices.Clone(l), s))
				}
			}
		}
		start = end
	}
	return all
}

// regions returns the regions that a list of clean texts and conflicts stands for; the conflicts all differ.
func regions(l []string) []api.Region {
	var out []api.Region
	for i, s := range l {
		if s == "?" {
			out = append(out, numbered(i))
		} else {
			out = append(out, clean(fed(s)...))
		}
	}
	return out
}

// P13.2, P13.6, P13.7: all short lists of regions and all short resolved files, against a plain reference.
func TestShort(t *testing.T) {
	solutions := strung("ab", 6)
	for _, l := range alternating([]string{"a", "b", "aa", "ab", "ba", "bb", "aba"}, 5) {
		r := regions(l)
		for _, s := range solutions {
			parts, ok := plainParts(l, s)
			solved := fed(s)
			got, e := recall.Learn(nil, r, solved, 7)
			if !ok {
				if e != api.ErrSyntax || len(got) != 0 {
					t.Errorf("Learn(%q, %q) = %v, %d, want ErrSyntax", l, s, got, e)
				}
				continue
			}
			want := make(map[string]api.Resolution)
			for _, one := range r {
				if one.Kind == api.RegionConflict {
					want[plainKey(one)] = api.Resolution{Key: plainKey(one), Lines: fed(parts[0]), Time: 7}
					parts = parts[1:]
				}
			}
			if e != api.OK || !sameMemos(got, inOrder(want)) {
				t.Errorf("Learn(%q, %q) = %v, %d, want %v", l, s, got, e, inOrder(want))
			}
			if again, e := recall.Learn(nil, swapped(r), solved, 7); e != api.OK || !sameMemos(again, got) {
				t.Errorf("Learn(%q, %q) with the sides exchanged = %v, %d, want %v", l, s, again, e, got)
			}
			back, n := recall.Solve(got, r)
			if !three.Clean(back) || !slices.Equal(three.Lines(back, api.SideNone), solved) || n != len(want) || len(back) > 1 {
				t.Errorf("Solve of Learn(%q, %q) = %v, %d", l, s, back, n)
			}
		}
	}
}

// P13.2: the example, and other lists told in full.
func TestLearn(t *testing.T) {
	x, y := conflict("p", "b", "q"), conflict("r", "b", "s")
	kx, ky := key(t, x), key(t, y)
	for _, c := range []struct {
		l      []api.Region
		solved []string
		want   map[string][]string
	}{
		{nil, nil, nil},
		{[]api.Region{clean("a\n"), x, clean("b\n")}, []string{"a\n", "x\n", "b\n"}, map[string][]string{kx: {"x\n"}}},
		{[]api.Region{clean("a\n"), x, clean("b\n")}, []string{"a\n", "b\n"}, map[string][]string{kx: nil}},
		{[]api.Region{clean("a\n"), x, clean("b\n")}, []string{"a\n", "b\n", "b\n"}, map[string][]string{kx: {"b\n"}}},
		{[]api.Region{clean("a\n"), x, clean("b\n")}, []string{"a\n", "a\n", "b\n"}, map[string][]string{kx: {"a\n"}}},
		{[]api.Region{clean("a\n"), x, clean("b\n")}, []string{"a\n", "b\n", "a\n", "b\n"}, map[string][]string{kx: {"b\n", "a\n"}}},
		{[]api.Region{x}, nil, map[string][]string{kx: nil}},
		{[]api.Region{x}, []string{"a\n", "b"}, map[string][]string{kx: {"a\n", "b"}}},
		{[]api.Region{x, clean("b")}, []string{"a\n", "b"}, map[string][]string{kx: {"a\n"}}},
		{[]api.Region{clean("a\n"), x}, []string{"a\n", "b"}, map[string][]string{kx: {"b"}}},
		{[]api.Region{clean("a")}, []string{"a"}, nil},
		{[]api.Region{x, clean("m\n"), y}, []string{"1\n", "m\n", "2\n", "m\n", "3"}, map[string][]string{kx: {"1\n"}, ky: {"2\n", "m\n", "3"}}},
		{[]api.Region{x, clean("m\n", "n\n"), y}, []string{"m\n", "m\n", "n\n", "n\n"}, map[string][]string{kx: {"m\n"}, ky: {"n\n"}}},
		{[]api.Region{clean("m\n"), x, clean("m\n"), y, clean("m\n")}, []string{"m\n", "m\n", "m\n"}, map[string][]string{kx: nil, ky: nil}},
		{[]api.Region{clean("m\n"), x, clean("m\n"), y, clean("m\n")}, []string{"m\n", "m\n", "m\n", "m\n"}, map[string][]string{kx: nil, ky: {"m\n"}}},
		{[]api.Region{clean("m\n"), x, clean("m\n"), x, clean("m\n")}, []string{"m\n", "1\n", "m\n", "2\n", "m\n"}, map[string][]string{kx: {"2\n"}}},
		{[]api.Region{x, clean("m\n"), conflict("q", "", "p")}, []string{"1\n", "m\n"}, map[string][]string{kx: nil}},
		{[]api.Region{{Kind: api.RegionClean, Lines: []string{"a\n"}, Ours: []string{"z\n"}}, x}, []string{"a\n"}, map[string][]string{kx: nil}},
		{[]api.Region{clean("a\n"), {Kind: api.RegionConflict, Lines: []string{"z\n"}, Ours: x.Ours, Theirs: x.Theirs}}, []string{"a\n"}, map[string][]string{kx: nil}},
	} {
		want := make(map[string]api.Resolution)
		for k, l := range c.want {
			want[k] = api.Resolution{Key: k, Lines: l, Time: 9}
		}
		if got, e := recall.Learn(nil, c.l, c.solved, 9); e != api.OK || !sameMemos(got, inOrder(want)) {
			t.Errorf("Learn(%v, %q) = %v, %d, want %v", c.l, c.solved, got, e, inOrder(want))
		}
	}
}

// P13.2: regions that aren't regular, lines that aren't valid, and clean regions that don't occur as they must.
func TestLearnSyntax(t *testing.T) {
	x, y := numbered(1), numbered(2)
	var long []string
	for range api.MaxLines + 1 {
		long = append(long, "a\n")
	}
	for _, c := range []struct {
		l      []api.Region
		solved []string
	}{
		{[]api.Region{x, y}, []string{"a\n"}},
		{[]api.Region{clean("a\n"), x, y, clean("b\n")}, []string{"a\n", "b\n"}},
		{[]api.Region{clean("a\n"), clean("b\n")}, []string{"a\n", "b\n"}},
		{[]api.Region{x, clean("a\n"), clean("b\n")}, []string{"a\n", "b\n"}},
		{[]api.Region{clean()}, nil},
		{[]api.Region{clean(), x}, []string{"a\n"}},
		{[]api.Region{x, clean()}, []string{"a\n"}},
		{[]api.Region{x, clean(), y}, []string{"a\n"}},
		{[]api.Region{{}}, nil},
		{[]api.Region{{Lines: []string{"a\n"}}}, []string{"a\n"}},
		{[]api.Region{{Kind: 3, Lines: []string{"a\n"}}}, []string{"a\n"}},
		{[]api.Region{{Kind: -1, Lines: []string{"a\n"}}, x}, []string{"a\n"}},
		{[]api.Region{x, {Kind: 3}}, nil},

		{[]api.Region{x}, []string{""}},
		{[]api.Region{x}, []string{"a\n", ""}},
		{[]api.Region{x}, []string{"a\nb\n"}},
		{[]api.Region{x}, []string{"a\nb"}},
		{[]api.Region{x}, []string{"a", "b\n"}},
		{[]api.Region{x}, long},
		{[]api.Region{clean("a"), x}, []string{"a", "b\n"}},
		{[]api.Region{clean("a\nb\n")}, []string{"a\nb\n"}},

		{nil, []string{"a\n"}},
		{nil, []string{"a"}},
		{[]api.Region{clean("a\n")}, nil},
		{[]api.Region{clean("a\n")}, []string{"a"}},
		{[]api.Region{clean("a\n")}, []string{"a\n", "a\n"}},
		{[]api.Region{clean("a\n")}, []string{"b\n", "a\n"}},
		{[]api.Region{clean("a\n")}, []string{"a\n", "b\n"}},
		{[]api.Region{clean("a\n", "a\n")}, []string{"a\n"}},
		{[]api.Region{clean("a\n"), x}, []string{"b\n", "a\n"}},
		{[]api.Region{clean("a\n"), x}, nil},
		{[]api.Region{x, clean("a\n")}, []string{"a\n", "b\n"}},
		{[]api.Region{x, clean("a\n")}, nil},
		{[]api.Region{x, clean("a\n")}, []string{"a"}},
		{[]api.Region{clean("a\n"), x, clean("a\n")}, []string{"a\n"}},
		{[]api.Region{clean("a\n", "b\n"), x, clean("b\n", "c\n")}, []string{"a\n", "b\n", "c\n"}},
		{[]api.Region{x, clean("a\n"), y}, []string{"b\n"}},
		{[]api.Region{x, clean("a\n", "b\n"), y}, []string{"a\n", "c\n", "b\n"}},
		{[]api.Region{clean("a\n"), x, clean("b\n"), y, clean("c\n")}, []string{"a\n", "c\n"}},
		{[]api.Region{clean("a\n"), x, clean("b\n"), y, clean("b\n")}, []string{"a\n", "b\n"}},
		{[]api.Region{clean("a\n"), x, clean("a\n"), y, clean("b\n")}, []string{"a\n", "b\n"}},
		{[]api.Region{x, clean("b\n"), y, clean("a\n"), x}, []string{"a\n", "b\n"}},
	} {
		if got, e := recall.Learn(many(3), c.l, c.solved, 9); e != api.ErrSyntax || len(got) != 0 {
			t.Errorf("Learn(%.200v, %.200q) = %v, %d, want ErrSyntax", c.l, c.solved, got, e)
		}
	}
}

// P13.2: invalid memos and times go ahead of any other error.
func TestLearnInvalid(t *testing.T) {
	good, bad := []api.Region{numbered(1)}, []api.Region{numbered(1), numbered(2)}
	for _, l := range [][]api.Region{nil, good, bad} {
		for i, m := range invalid() {
			if got, e := recall.Learn(m, l, nil, 9); e != api.ErrInvalid || len(got) != 0 {
				t.Errorf("Learn from the invalid list %d = %.200v, %d", i, got, e)
			}
		}
		for _, now := range []int{math.MinInt, -1, api.MaxTime + 1, math.MaxInt} {
			if got, e := recall.Learn(many(api.MaxMemos), l, nil, now); e != api.ErrInvalid || len(got) != 0 {
				t.Errorf("Learn at %d = %v, %d", now, got, e)
			}
		}
	}
	for _, now := range []int{0, 1, api.MaxTime} {
		if got, e := recall.Learn(nil, good, nil, now); e != api.OK || len(got) != 1 || got[0].Time != now {
			t.Errorf("Learn at %d = %v, %d", now, got, e)
		}
	}
}

// P13.2, P13.8: new memos among old ones, in their places; those with other keys stay.
func TestLearnAmong(t *testing.T) {
	next := draw(1)
	for range 300 {
		var m []api.Resolution
		set := make(map[string]api.Resolution)
		for range next(20) {
			k := key(t, numbered(next(20)))
			set[k] = api.Resolution{Key: k, Lines: []string{strconv.Itoa(next(9)) + "\n"}, Time: next(9)}
		}
		m = inOrder(set)
		var l []api.Region
		var solved []string
		want := sets(m)
		for i := range next(8) {
			if i > 0 {
				l, solved = append(l, clean("-\n")), append(solved, "-\n")
			}
			r := numbered(next(20))
			var part []string
			for range next(3) {
				part = append(part, strconv.Itoa(next(99))+"\n")
			}
			l, solved = append(l, r), append(solved, part...)
			want[key(t, r)] = api.Resolution{Key: key(t, r), Lines: part, Time: 100}
		}
		got, e := recall.Learn(m, l, solved, 100)
		if e != api.OK || !sameMemos(got, inOrder(want)) || !recall.Valid(got) {
			t.Errorf("Learn(%v, %v, %q) = %v, %d, want %v", m, l, solved, got, e, inOrder(want))
		}
		if again, e := recall.Learn(m, swapped(l), solved, 100); e != api.OK || !sameMemos(again, got) {
			t.Errorf("Learn(%v, %v, %q) with the sides exchanged = %v, %d", m, l, solved, again, e)
		}
		if back, _ := recall.Solve(got, l); !three.Clean(back) {
			t.Errorf("Solve(%v, %v) = %v", got, l, back)
		}
	}
}

// P13.2: as many memos as there can be, and more.
func TestLearnMuch(t *testing.T) {
	x, y := numbered(1), numbered(2)
	two := []api.Region{x, clean("-\n"), y}
	twice := []api.Region{x, clean("-\n"), x}
	for _, c := range []struct {
		old  int
		l    []api.Region
		want int // memos, or -1 for too many
	}{
		{api.MaxMemos - 2, two, api.MaxMemos},
		{api.MaxMemos - 1, two, -1},
		{api.MaxMemos, two, -1},
		{api.MaxMemos - 1, twice, api.MaxMemos},
		{api.MaxMemos, twice, -1},
		{api.MaxMemos, []api.Region{x}, -1},
		{api.MaxMemos, nil, api.MaxMemos},
	} {
		solved := []string{"-\n"}
		if len(c.l) < 2 {
			solved = nil
		}
		got, e := recall.Learn(many(c.old), c.l, solved, 9)
		if c.want < 0 && (e != api.ErrTooLarge || len(got) != 0) || c.want >= 0 && (e != api.OK || len(got) != c.want || !recall.Valid(got)) {
			t.Errorf("Learn of %d regions from %d memos = %d memos, %d, want %d", len(c.l), c.old, len(got), e, c.want)
		}
	}
	full := many(api.MaxMemos)
	full[0].Key = key(t, x)
	full = inOrder(sets(full))
	got, e := recall.Learn(full, twice, []string{"1\n", "-\n", "2\n"}, 9)
	want := sets(full)
	want[key(t, x)] = api.Resolution{Key: key(t, x), Lines: []string{"2\n"}, Time: 9}
	if e != api.OK || !sameMemos(got, inOrder(want)) {
		t.Errorf("Learn of a known conflict from a full list = %d memos, %d", len(got), e)
	}
	if got, e := recall.Learn(full, two, []string{"a\n"}, 9); e != api.ErrSyntax || len(got) != 0 {
		t.Errorf("Learn of too much from lines that don't fit = %d memos, %d", len(got), e)
	}
}

// plainSolve follows P13.3, step by step.
func plainSolve(m []api.Resolution, l []api.Region) ([]api.Region, int) {
	set := sets(m)
	var replaced []api.Region
	n := 0
	for _, r := range l {
		memo, ok := set[plainKey(r)]
		if r.Kind == api.RegionConflict && ok {
			r = clean(memo.Lines...)
			n++
		}
		replaced = append(replaced, r)
	}
	var full []api.Region
	for _, r := range replaced {
		if r.Kind != api.RegionClean || len(r.Lines) > 0 {
			full = append(full, r)
		}
	}
	for i := 1; i < len(full); {
		if full[i-1].Kind != api.RegionClean || full[i].Kind != api.RegionClean {
			i++
			continue
		}
		full[i-1] = clean(append(slices.Clone(full[i-1].Lines), full[i].Lines...)...)
		full = slices.Delete(full, i, i+1)
	}
	return full, n
}

// P13.3: all short lists of regions of all sorts, against a plain reference.
func TestSolve(t *testing.T) {
	x, y, z := conflict("p", "b", "q"), conflict("r", "", "s"), conflict("u", "", "")
	m := inOrder(sets([]api.Resolution{
		{Key: key(t, x), Lines: []string{"x\n", "X\n"}, Time: 3}, {Key: key(t, y), Time: 4},
		{Key: key(t, numbered(7)), Lines: []string{"7\n"}, Time: 5}, {Key: id(0)},
	}))
	extra := []string{"e\n"}
	sorts := []api.Region{
		clean(), clean("a\n"), clean("b\n", "c"), {Kind: api.RegionClean, Lines: []string{"d\n"}, Ours: extra, Base: extra, Theirs: extra},
		{Kind: api.RegionClean, Ours: extra}, x, swapped([]api.Region{x})[0], y, z,
		{}, {Kind: 3, Lines: []string{"f\n"}, Ours: x.Ours, Theirs: x.Theirs},
	}
	all := [][]api.Region{nil}
	for start, size := 0, 0; size < 4; size++ {
		end := len(all)
		for _, l := range all[start:end] {
			for _, r := range sorts {
				all = append(all, append(slices.Clone(l), r))
			}
		}
		start = end
	}
	for _, l := range all {
		want, count := plainSolve(m, l)
		if got, n := recall.Solve(m, l); !sameRegions(got, want) || n != count {
			t.Errorf("Solve(%v) = %v, %d, want %v, %d", l, got, n, want, count)
		}
		want, _ = plainSolve(nil, l)
		if got, n := recall.Solve(nil, l); !sameRegions(got, want) || n != 0 {
			t.Errorf("Solve of %v without memos = %v, %d, want %v", l, got, n, want)
		}
	}
}

// P13.3: some lists told in full.
func TestSolveTold(t *testing.T) {
	x, y := conflict("p", "b", "q"), conflict("r", "", "s")
	m := []api.Resolution{{Key: key(t, x), Lines: []string{"x\n"}}}
	none := []api.Resolution{{Key: key(t, x)}}
	extra := api.Region{Kind: api.RegionClean, Lines: []string{"a\n"}, Ours: []string{"o\n"}}
	for _, c := range []struct {
		m    []api.Resolution
		l    []api.Region
		want []api.Region
		n    int
	}{
		{m, nil, nil, 0},
		{m, []api.Region{x}, []api.Region{clean("x\n")}, 1},
		{m, []api.Region{y}, []api.Region{y}, 0},
		{m, []api.Region{x, x}, []api.Region{clean("x\n", "x\n")}, 2},
		{m, []api.Region{clean("a\n"), x, clean("b\n")}, []api.Region{clean("a\n", "x\n", "b\n")}, 1},
		{m, []api.Region{clean("a\n"), y, clean("b\n"), x}, []api.Region{clean("a\n"), y, clean("b\n", "x\n")}, 1},
		{none, []api.Region{x}, nil, 1},
		{none, []api.Region{clean("a\n"), x, clean("b\n")}, []api.Region{clean("a\n", "b\n")}, 1},
		{none, []api.Region{extra, x}, []api.Region{extra}, 1},
		{none, []api.Region{extra, x, y}, []api.Region{extra, y}, 1},
		{none, []api.Region{extra, x, clean("b\n")}, []api.Region{clean("a\n", "b\n")}, 1},
		{m, []api.Region{x, extra}, []api.Region{clean("x\n", "a\n")}, 1},
		{nil, []api.Region{extra, clean(), x}, []api.Region{extra, x}, 0},
		{nil, []api.Region{clean("a\n"), clean("b\n"), clean("c")}, []api.Region{clean("a\n", "b\n", "c")}, 0},
	} {
		if got, n := recall.Solve(c.m, c.l); !sameRegions(got, c.want) || n != c.n {
			t.Errorf("Solve(%v, %v) = %v, %d, want %v, %d", c.m, c.l, got, n, c.want, c.n)
		}
	}
}

// P13.3: with invalid memos nothing at all changes.
func TestSolveInvalid(t *testing.T) {
	x := numbered(1)
	l := []api.Region{clean(), clean("a\n"), clean("b\n"), x, clean(), {Kind: api.RegionClean, Lines: []string{"c\n"}, Base: []string{"d\n"}}, {Kind: 9}}
	lists := append(invalid(), []api.Resolution{{Key: key(t, x), Lines: []string{"x\n"}, Time: -1}}, []api.Resolution{{Key: key(t, x), Lines: []string{"x\n"}}, {Key: id(0)}, {Key: id(0)}})
	for i, m := range lists {
		if got, n := recall.Solve(m, l); !sameRegions(got, l) || n != 0 {
			t.Errorf("Solve with the invalid list %d = %v, %d", i, got, n)
		}
	}
}

// P13.6: what Learn recorded of a merge solves the merge again.
func TestReplay(t *testing.T) {
	base, ours, theirs := fed("1a2b3c4"), fed("1x2b3p4"), fed("1y2b3q4")
	l := three.Merge(base, ours, theirs)
	solved := fed("1xy2b34")
	m, e := recall.Learn(nil, l, solved, 1)
	if e != api.OK || len(m) != 2 {
		t.Fatalf("Learn = %v, %d", m, e)
	}
	for _, again := range [][]api.Region{l, three.Merge(base, theirs, ours)} {
		if got, n := recall.Solve(m, again); n != 2 || !sameRegions(got, []api.Region{clean(solved...)}) {
			t.Errorf("Solve = %v, %d", got, n)
		}
	}
}

// spoil writes over all lists of regions, and into what capacity they have left.
func spoil(l []api.Region) {
	for i := range l {
		for _, list := range []*[]string{&l[i].Lines, &l[i].Ours, &l[i].Base, &l[i].Theirs} {
			spoilLines(*list)
		}
	}
}

// spoilMemos does as spoil does, for memos.
func spoilMemos(m []api.Resolution) {
	for i := range m {
		spoilLines(m[i].Lines)
		m[i] = api.Resolution{}
	}
	_ = append(m, api.Resolution{Key: "!"}, api.Resolution{Key: "!"})
}

func spoilLines(l []string) {
	for i := range l {
		l[i] = "!"
	}
	_ = append(l, "!", "!")
}

// R3: arguments stay as they are, their spare capacity too, and results are memory of their own.
func TestMemory(t *testing.T) {
	x, y := numbered(1), numbered(2)
	room := func(l ...string) []string { return append(l, "?", "?")[:len(l)] }
	make1 := func() []api.Region {
		return []api.Region{
			{Kind: api.RegionClean, Lines: room("a\n")}, {Kind: api.RegionConflict, Ours: room(x.Ours...), Base: room("b\n"), Theirs: room()},
			{Kind: api.RegionClean, Lines: room("c\n")}, {Kind: api.RegionConflict, Ours: room(y.Ours...), Base: room("b\n"), Theirs: room()},
		}
	}
	make2 := func() []api.Resolution {
		m := []api.Resolution{{Key: id(0), Lines: room("0\n"), Time: 1}, {Key: key(t, x), Lines: room("1\n"), Time: 2}, {Key: strings.Repeat("f", 40), Lines: room("2\n"), Time: 3}}
		return append(m, api.Resolution{Key: "?", Time: 8}, api.Resolution{Key: "?", Time: 9})[:3]
	}
	make3 := func() []string { return room("a\n", "p\n", "q\n", "c\n", "r\n") }
	l, m, solved := make1(), make2(), make3()
	check := func(what string) {
		t.Helper()
		same := reflect.DeepEqual(l, make1()) && reflect.DeepEqual(m, make2()) && reflect.DeepEqual(solved, make3())
		for _, r := range l {
			for _, list := range [][]string{r.Lines, r.Ours, r.Base, r.Theirs} {
				same = same && (cap(list) == len(list) || list[:len(list)+1][len(list)] == "?")
			}
		}
		for _, memo := range m {
			same = same && memo.Lines[:2][1] == "?"
		}
		if !same || m[:4][3].Time != 8 || m[:5][4].Time != 9 || solved[:6][5] != "?" {
			t.Errorf("%s changes its arguments or shares memory with them", what)
		}
	}
	got, e := recall.Learn(m, l, solved, 5)
	if e != api.OK || len(got) != 4 {
		t.Fatalf("Learn = %v, %d", got, e)
	}
	for i := range got {
		spoilLines(got[i].Lines)
	}
	again, _ := recall.Learn(m, l, solved, 5)
	if i := slices.IndexFunc(again, func(one api.Resolution) bool { return one.Key == key(t, x) }); !slices.Equal(again[i].Lines, []string{"p\n", "q\n"}) {
		t.Errorf("Learn's lists share memory: %v", again)
	}
	spoilMemos(got)
	check("Learn")
	got, _ = recall.Learn(m, nil, nil, 5)
	spoilMemos(got)
	check("Learn of nothing")
	spoilMemos(recall.Drop(m, 2))
	check("Drop")
	spoilMemos(recall.Drop(m, 0))
	check("Drop of nothing")
	bad := append(slices.Clone(m), api.Resolution{})
	spoilMemos(recall.Drop(bad, 2))
	check("Drop of invalid memos")
	for _, memos := range [][]api.Resolution{m, nil, bad} {
		out, _ := recall.Solve(memos, l)
		spoil(out)
		check("Solve")
	}
	twice := []api.Region{x, conflict("z", "", ""), x}
	out, _ := recall.Solve(m, twice)
	spoilLines(out[0].Lines)
	if !slices.Equal(out[2].Lines, []string{"1\n"}) {
		t.Error("two regions of Solve share memory")
	}
	check("Solve of one conflict twice")
}

// R1: lines and regions up to the limits, in good time.
func TestMuch(t *testing.T) {
	start := time.Now()
	same := slices.Repeat([]string{"a\n"}, api.MaxLines)
	last := append(slices.Clone(same[:api.MaxLines/2]), "b\n")
	if got, e := recall.Learn(nil, []api.Region{numbered(1), clean(last...), numbered(2)}, same, 1); e != api.ErrSyntax || got != nil {
		t.Errorf("Learn of lines that aren't there = %v, %d", got, e)
	}
	var l []api.Region
	var solved []string
	for i := range api.MaxMemos {
		l = append(l, numbered(i), clean("-\n"))
		solved = append(solved, strconv.Itoa(i)+"\n", "-\n")
	}
	m, e := recall.Learn(nil, l, solved, 1)
	if e != api.OK || len(m) != api.MaxMemos || !recall.Valid(m) {
		t.Errorf("Learn of many conflicts = %d memos, %d", len(m), e)
	}
	if got, n := recall.Solve(m, l); n != api.MaxMemos || !sameRegions(got, []api.Region{clean(solved...)}) {
		t.Errorf("Solve of many conflicts = %d regions, %d", len(got), n)
	}
	var more []api.Region
	for i := range api.MaxLines {
		more = append(more, numbered(i), clean("a\n"))
	}
	if got, e := recall.Learn(nil, more, same, 1); e != api.ErrTooLarge || got != nil {
		t.Errorf("Learn of too many conflicts = %d memos, %d", len(got), e)
	}
	crowd := slices.Repeat([]api.Region{numbered(1), clean("a\n")}, 1<<17)
	if got, n := recall.Solve(m, crowd); n != 1<<17 || len(got) != 1 || len(got[0].Lines) != 1<<18 {
		t.Errorf("Solve of a crowd = %d regions, %d", len(got), n)
	}
	text := strings.Repeat("x", 1<<24) + "\n"
	big := api.Region{Kind: api.RegionConflict, Ours: []string{text}, Theirs: []string{text, text}}
	if k, ok := recall.Key(big); !ok || !ident.Is(k) {
		t.Errorf("Key of much = %q, %t", k, ok)
	}
	if d := time.Since(start); d > 20*time.Second {
		t.Errorf("it took %s", d)
	}
}
