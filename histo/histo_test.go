package histo_test

import (
	"slices"
	"strconv"
	"strings"
	"testing"

	"graftage/api"
	"graftage/diff"
	"graftage/histo"
)

// edit returns an edit, from its numbers in the order in which api.Edit declares them.
func edit(from, deleted, to, inserted int) api.Edit {
	return api.Edit{From: from, Deleted: deleted, To: to, Inserted: inserted}
}

// run returns a run of n lines from a and b on.
func run(a, b, n int) api.Run {
	return api.Run{A: a, B: b, N: n}
}

// letters returns a list with a line for each byte of s.
func letters(s string) []string {
	var l []string
	for _, b := range []byte(s) {
		l = append(l, string([]byte{b}))
	}
	return l
}

// lists returns all lists of at most most lines, each a letter out of some.
func lists(some string, most int) [][]string {
	all := [][]string{nil}
	for start, size := 0, 0; size < most; size++ {
		end := len(all)
		for _, l := range all[start:end] {
			for _, line := range letters(some) {
				all = append(all, append(slices.Clone(l), line))
			}
		}
		start = end
	}
	return all
}

// draw returns numbers below n that depend on seed alone.
func draw(seed uint64) func(n int) int {
	return func(n int) int {
		seed = seed*6364136223846793005 + 1442695040888963407
		return int((seed >> 33) % uint64(n))
	}
}

// noise returns n lines out of kinds ones.
func noise(n, kinds int, seed uint64) []string {
	next := draw(seed)
	l := make([]string, 0, n)
	for range n {
		l = append(l, strconv.Itoa(next(kinds))+"\n")
	}
	return l
}

// count returns the lines from to to-1 of a list in which all lines differ.
func count(from, to int) []string {
	var l []string
	for i := from; i < to; i++ {
		l = append(l, strconv.Itoa(i))
	}
	return l
}

// times returns n lines that are alike.
func times(n int, line string) []string {
	return slices.Repeat([]string{line}, n)
}

// guarded hands a copy of l with spare capacity to use, and fails if use changes any of it.
func guarded(t *testing.T, l []string, use func([]string)) {
	t.Helper()
	whole := append(slices.Clone(l), "?", "?", "?")
	before := slices.Clone(whole)
	use(whole[:len(l)])
	if !slices.Equal(whole, before) {
		t.Errorf("an argument of %d lines is changed", len(l))
	}
}

// plainAnchor follows the definition: it writes down all common runs and drops all but the first of the best ones.
func plainAnchor(a, b []string) (api.Run, bool) {
	occurs := make(map[string]int)
	for _, line := range a {
		occurs[line]++
	}
	var best api.Run
	rarest := 65
	for i := range a {
		for j := range b {
			if a[i] != b[j] || i > 0 && j > 0 && a[i-1] == b[j-1] {
				continue
			}
			n, frequency := 0, occurs[a[i]]
			for i+n < len(a) && j+n < len(b) && a[i+n] == b[j+n] {
				frequency = min(frequency, occurs[a[i+n]])
				n++
			}
			if frequency < rarest || frequency == rarest && frequency < 65 && n > best.N {
				best, rarest = run(i, j, n), frequency
			}
		}
	}
	return best, rarest < 65
}

// plainKept follows P9.1: it returns a byte for each line of a, '+' if it is kept, and one for each line of b.
func plainKept(a, b []string) (string, string) {
	if len(a) > 0 && len(b) > 0 && a[0] == b[0] {
		x, y := plainKept(a[1:], b[1:])
		return "+" + x, "+" + y
	}
	return plainRest(a, b)
}

// plainRest does as plainKept does, once the prefix is kept.
func plainRest(a, b []string) (string, string) {
	n, m := len(a), len(b)
	if n > 0 && m > 0 && a[n-1] == b[m-1] {
		x, y := plainRest(a[:n-1], b[:m-1])
		return x + "+", y + "+"
	}
	if n == 0 || m == 0 {
		return strings.Repeat("-", n), strings.Repeat("-", m)
	}
	anchor, ok := plainAnchor(a, b)
	if !ok {
		return plainLeast(a, b)
	}
	x, y := plainKept(a[:anchor.A], b[:anchor.B])
	v, w := plainKept(a[anchor.A+anchor.N:], b[anchor.B+anchor.N:])
	kept := strings.Repeat("+", anchor.N)
	return x + kept + v, y + kept + w
}

// plainLeast does as plainKept does, for lists without an anchor.
func plainLeast(a, b []string) (string, string) {
	x, y, i, j := "", "", 0, 0
	for _, one := range append(diff.Least(a, b), edit(len(a), 0, len(b), 0)) {
		x += strings.Repeat("+", one.From-i) + strings.Repeat("-", one.Deleted)
		y += strings.Repeat("+", one.To-j) + strings.Repeat("-", one.Inserted)
		i, j = one.From+one.Deleted, one.To+one.Inserted
	}
	return x, y
}

// plainScript returns the edits that keep what plainKept keeps.
func plainScript(a, b []string) []api.Edit {
	x, y := plainKept(a, b)
	var l []api.Edit
	for i, j := 0, 0; i < len(a) || j < len(b); i, j = i+1, j+1 {
		one := edit(i, 0, j, 0)
		for i < len(a) && x[i] == '-' {
			one.Deleted, i = one.Deleted+1, i+1
		}
		for j < len(b) && y[j] == '-' {
			one.Inserted, j = one.Inserted+1, j+1
		}
		if one.Deleted+one.Inserted > 0 {
			l = append(l, one)
		}
	}
	return l
}

// expectScript fails unless Script answers just this.
func expectScript(t *testing.T, a, b []string, want []api.Edit) {
	t.Helper()
	if got := histo.Script(a, b); !slices.Equal(got, want) {
		t.Errorf("Script(%.80q, %.80q) = %.20v, want %.20v", a[:min(len(a), 12)], b[:min(len(b), 12)], got, want)
	}
}

// expectAnchor fails unless Anchor answers just this; no run is no anchor.
func expectAnchor(t *testing.T, a, b []string, want api.Run) {
	t.Helper()
	if got, ok := histo.Anchor(a, b); got != want || ok != (want.N > 0) {
		t.Errorf("Anchor(%.80q, %.80q) = %v, %t, want %v", a[:min(len(a), 12)], b[:min(len(b), 12)], got, ok, want)
	}
}

// P9.1: the example, and what is kept first.
func TestScript(t *testing.T) {
	for _, c := range []struct {
		a, b string
		want []api.Edit
	}{
		{"x1x", "x21x", []api.Edit{edit(1, 0, 1, 1)}},
		{"", "", nil},
		{"a", "a", nil},
		{"abc", "abc", nil},
		{"", "ab", []api.Edit{edit(0, 0, 0, 2)}},
		{"ab", "", []api.Edit{edit(0, 2, 0, 0)}},
		{"a", "b", []api.Edit{edit(0, 1, 0, 1)}},
		{"abc", "ab", []api.Edit{edit(2, 1, 2, 0)}},
		{"abc", "bc", []api.Edit{edit(0, 1, 0, 0)}},
		// The prefix goes before the suffix.
		{"aa", "aaa", []api.Edit{edit(2, 0, 2, 1)}},
		{"aba", "aba_aba", []api.Edit{edit(3, 0, 3, 4)}},
		// The suffix goes before the anchor, which would be the first of both r.
		{"prxx", "rxxrxx", []api.Edit{edit(0, 1, 0, 3)}},
		// The rare r is kept, though keeping both x would cost less.
		{"cxxr", "rxxd", []api.Edit{edit(0, 3, 0, 0), edit(4, 0, 1, 3)}},
		{"xx1yy", "yy1xx", []api.Edit{edit(0, 2, 0, 2), edit(3, 2, 3, 2)}},
		// The parts before and behind the anchor have prefixes, suffixes and anchors of their own.
		{"apbqcrd", "xpyqzrw", []api.Edit{edit(0, 1, 0, 1), edit(2, 1, 2, 1), edit(4, 1, 4, 1), edit(6, 1, 6, 1)}},
		// In the part behind the anchor 1, a occurs once, so it goes before b there.
		{"aa1xabb2", "1bbzaz3", []api.Edit{edit(0, 2, 0, 0), edit(3, 1, 1, 3), edit(5, 3, 5, 2)}},
	} {
		expectScript(t, letters(c.a), letters(c.b), c.want)
	}
	expectScript(t, []string{"", "a\n", "b"}, []string{"", "a", "b"}, []api.Edit{edit(1, 1, 1, 1)})
	expectScript(t, []string{"a", "b\x00", "c"}, []string{"a", "\xff", "c"}, []api.Edit{edit(1, 1, 1, 1)})
}

// P9.1: all short lists, against the rule.
func TestScriptPlain(t *testing.T) {
	all := append(lists("abc", 4), lists("ab", 6)...)
	for _, a := range all {
		for _, b := range all {
			expectScript(t, a, b, plainScript(a, b))
		}
	}
}

// longer hands longer lists to use: noise out of a few kinds, so that lines occur from once to far above 64 times, and lists that a few changes make of each other.
func longer(use func(a, b []string)) {
	next := draw(11)
	for seed := range uint64(250) {
		kinds := []int{1, 2, 3, 5, 20, 100}[seed%6]
		a, b := noise(next(300), kinds, seed), noise(next(300), kinds, seed+1000)
		use(a, b)
		b = slices.Clone(a)
		for range 1 + next(9) {
			b = slices.Insert(b, next(len(b)+1), strconv.Itoa(next(kinds+3))+"\n")
			at := next(len(b))
			b = slices.Delete(b, at, at+1)
		}
		use(a, b)
		use(b, a)
		// A few rare lines among many that are not.
		for range next(6) {
			a = slices.Insert(a, next(len(a)+1), strconv.Itoa(1000+next(4))+"\n")
			b = slices.Insert(b, next(len(b)+1), strconv.Itoa(1000+next(4))+"\n")
		}
		use(a, b)
	}
}

// P9.1: longer lists, against the rule.
func TestScriptLonger(t *testing.T) {
	longer(func(a, b []string) {
		expectScript(t, a, b, plainScript(a, b))
	})
}

// P9.1: lists without an anchor keep what diff.Least keeps, which is nothing beyond its limit.
func TestScriptWithoutAnchor(t *testing.T) {
	ab := append(times(65, "a"), times(65, "b")...)
	ba := append(times(65, "b"), times(65, "a")...)
	expectScript(t, ab, ba, []api.Edit{edit(0, 65, 0, 0), edit(130, 0, 65, 65)})
	expectScript(t, slices.Concat([]string{"p", "q"}, ab, []string{"s"}), slices.Concat([]string{"p"}, ba, []string{"r", "s"}),
		[]api.Edit{edit(1, 66, 1, 0), edit(132, 0, 66, 66)})
	// With one a less, the a are the anchor.
	expectScript(t, ab[1:], ba, []api.Edit{edit(0, 0, 0, 65), edit(64, 65, 129, 1)})
	big := append(times(2048, "a"), times(2048, "b")...)
	gib := append(times(2048, "b"), times(2048, "a")...)
	expectScript(t, big, gib, []api.Edit{edit(0, 2048, 0, 0), edit(4096, 0, 2048, 2048)})
	expectScript(t, append(big, "b"), gib, []api.Edit{edit(0, 4097, 0, 4096)})
	expectScript(t, big, append(gib, "a"), []api.Edit{edit(0, 4096, 0, 4097)})
	// The limit holds for what is left between the prefix and the suffix.
	expectScript(t, slices.Concat([]string{"p"}, big, []string{"s"}), slices.Concat([]string{"p"}, gib, []string{"s"}),
		[]api.Edit{edit(1, 2048, 1, 0), edit(4097, 0, 2049, 2048)})
}

// P9.1: there is no limit for lists that have an anchor.
func TestScriptLongest(t *testing.T) {
	expectScript(t, count(0, 9000), count(1, 9001), []api.Edit{edit(0, 1, 0, 0), edit(9000, 0, 8999, 1)})
	expectScript(t, count(0, 100000), count(0, 100000), nil)
	expectScript(t, count(0, 100000), slices.Concat(count(50000, 100000), count(0, 50000)),
		[]api.Edit{edit(0, 0, 0, 50000), edit(50000, 50000, 100000, 0)})
}

// P9.2: the examples, and what goes before what.
func TestAnchor(t *testing.T) {
	for _, c := range []struct {
		a, b string
		want api.Run
	}{
		{"abb", "bbc", run(1, 0, 2)},
		{"", "", run(0, 0, 0)},
		{"", "a", run(0, 0, 0)},
		{"a", "", run(0, 0, 0)},
		{"a", "b", run(0, 0, 0)},
		{"a", "a", run(0, 0, 1)},
		{"abc", "abc", run(0, 0, 3)},
		// The rarest line goes before the longest run, even where it is frequent in b.
		{"aaab", "aaacb", run(3, 4, 1)},
		{"aaab", "bcbcaaa", run(3, 0, 1)},
		{"aabbb", "bbbcaa", run(0, 4, 2)},
		// A run has the frequency of its rarest line.
		{"xxaxbb", "bb_xxax", run(0, 3, 4)},
		{"aab_aa", "aab", run(0, 0, 3)},
		// The longest run, then the smallest offset in a, then in b.
		{"abcd", "cd_ab", run(0, 3, 2)},
		{"abcde", "cde_ab", run(2, 0, 3)},
		{"abcd", "d_c_b_a", run(0, 6, 1)},
		{"ab", "b_a_b_a", run(0, 2, 1)},
		{"abab", "ab_ab_", run(0, 0, 2)},
		{"a_a", "a", run(0, 0, 1)},
		// No run that another line could lengthen.
		{"xaay", "aa", run(1, 0, 2)},
		{"aa", "xaay", run(0, 1, 2)},
		{"xay", "xaz", run(0, 0, 2)},
		{"xay", "zay", run(1, 1, 2)},
	} {
		expectAnchor(t, letters(c.a), letters(c.b), c.want)
	}
	expectAnchor(t, []string{"", "\n"}, []string{"\n", ""}, run(0, 1, 1))
}

// P9.2: a line that occurs 64 times in a makes an anchor, one that does so 65 times none, however often it stands in b.
func TestAnchorLimit(t *testing.T) {
	expectAnchor(t, times(64, "a"), times(64, "a"), run(0, 0, 64))
	expectAnchor(t, times(65, "a"), times(65, "a"), run(0, 0, 0))
	expectAnchor(t, times(64, "a"), times(200, "a"), run(0, 0, 64))
	expectAnchor(t, times(65, "a"), []string{"a"}, run(0, 0, 0))
	expectAnchor(t, times(64, "a"), []string{"b", "a"}, run(0, 1, 1))
	mixed := append(times(65, "a"), times(64, "b")...)
	expectAnchor(t, mixed, append(times(20, "a"), "c", "b"), run(65, 21, 1))
	expectAnchor(t, mixed, times(20, "a"), run(0, 0, 0))
	expectAnchor(t, mixed, append(times(20, "a"), "b"), run(45, 0, 21))
}

// P9.2: all short lists, against the definition.
func TestAnchorPlain(t *testing.T) {
	all := append(lists("abc", 5), lists("ab", 7)...)
	for _, a := range all {
		for _, b := range all {
			want, _ := plainAnchor(a, b)
			expectAnchor(t, a, b, want)
		}
	}
}

// P9.2: longer lists, against the definition.
func TestAnchorLonger(t *testing.T) {
	longer(func(a, b []string) {
		want, _ := plainAnchor(a, b)
		expectAnchor(t, a, b, want)
	})
}

// P9.3: how often a line occurs, byte for byte.
func TestCount(t *testing.T) {
	for _, c := range []struct {
		a    []string
		s    string
		want int
	}{
		{nil, "", 0},
		{nil, "a", 0},
		{[]string{""}, "", 1},
		{[]string{"a"}, "", 0},
		{letters("abaab"), "a", 3},
		{letters("abaab"), "b", 2},
		{letters("abaab"), "c", 0},
		{letters("abaab"), "ab", 0},
		{[]string{"a\n", "a", "A", "a\n", "aa"}, "a\n", 2},
		{times(100, "x"), "x", 100},
	} {
		if got := histo.Count(c.a, c.s); got != c.want {
			t.Errorf("Count(%q, %q) = %d, want %d", c.a, c.s, got, c.want)
		}
	}
}

// P9.4: the script is valid, and costs no less than the least one.
func TestValid(t *testing.T) {
	check := func(a, b []string) {
		l := histo.Script(a, b)
		if !diff.Valid(a, b, l) || diff.Cost(l) < diff.Cost(diff.Least(a, b)) {
			t.Fatalf("Script(%.200q, %.200q) = %v", a, b, l)
		}
	}
	for _, a := range lists("abc", 5) {
		for _, b := range lists("abc", 5) {
			check(a, b)
		}
	}
	longer(check)
	if l := histo.Script(noise(20000, 3, 1), noise(20000, 3, 2)); !diff.Valid(noise(20000, 3, 1), noise(20000, 3, 2), l) {
		t.Error("the script of lists beyond the limit is invalid")
	}
}

// P9.4: where every line occurs once, and common lines are in the same order, no script costs less.
func TestOnce(t *testing.T) {
	next := draw(5)
	for range 400 {
		kinds := 1 + next(4)
		var a, b []string
		for i := range next(200) {
			line := strconv.Itoa(i)
			switch next(2 + kinds) {
			case 0:
				a = append(a, line)
			case 1:
				b = append(b, line)
			default:
				a, b = append(a, line), append(b, line)
			}
		}
		if got, want := diff.Cost(histo.Script(a, b)), diff.Cost(diff.Least(a, b)); got != want {
			t.Fatalf("Script(%q, %q) costs %d, not %d", a, b, got, want)
		}
	}
}

// P9.4: frequencies are those in a, so the way back is another than the inverse of the way there.
func TestNoInverse(t *testing.T) {
	a, b := letters("1rrs2"), letters("3sssr4")
	expectScript(t, a, b, []api.Edit{edit(0, 3, 0, 1), edit(4, 1, 2, 4)})
	expectScript(t, b, a, []api.Edit{edit(0, 4, 0, 1), edit(5, 1, 2, 3)})
}

// R1: lists that ask for many steps have their answer in good time: many anchors, each of which leaves all that follows, or many places of lines as rare as can be.
func TestHardest(t *testing.T) {
	var a, b []string
	long := strings.Repeat("x", 20000)
	for i := range 4096 {
		line := long + strconv.Itoa(10000+i)
		a, b = append(a, line), append(b, line)
		if i%2 == 0 {
			b[i] = line + "!"
		}
	}
	if l := histo.Script(a, b); len(l) != 2048 || diff.Cost(l) != 4096 {
		t.Errorf("a script of %d edits", len(l))
	}
	expectAnchor(t, count(0, 400000), count(0, 400000), run(0, 0, 400000))
	a, b = times(200000, "x"), times(200000, "x")
	for i := range 64 {
		a[i*3000] = "r"
	}
	for i := range 100000 {
		b[2*i] = "r"
	}
	expectAnchor(t, a, b, run(2999, 1, 3))
	expectAnchor(t, b, a, run(0, 0, 0))
	a, b = times(200000, "x"), times(200000, "x")
	a[100000], b[100000] = "r", "r"
	expectAnchor(t, a, b, run(0, 0, 200000))
	for i := range 63 {
		a[i], b[i] = "r", "r"
	}
	expectAnchor(t, a, b, run(0, 0, 200000))
}

// R3: no call changes its arguments, nor the capacity behind them.
func TestArgumentsStay(t *testing.T) {
	for _, pair := range [][2]string{{"abcd", "xbcy"}, {"ab", "ba"}, {"", "ab"}, {"ab", "ab"}} {
		guarded(t, letters(pair[0]), func(a []string) {
			guarded(t, letters(pair[1]), func(b []string) {
				histo.Script(a, b)
				histo.Anchor(a, b)
				histo.Count(a, "b")
			})
		})
	}
}
