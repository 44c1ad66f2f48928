package diff_test

import (
	"math"
	"slices"
	"strconv"
	"strings"
	"testing"

	"graftage/api"
	"graftage/diff"
)

// edit returns an edit, from its numbers in the order in which api.Edit declares them.
func edit(from, deleted, to, inserted int) api.Edit {
	return api.Edit{From: from, Deleted: deleted, To: to, Inserted: inserted}
}

// letters returns a list with a line for each byte of s.
func letters(s string) []string {
	var l []string
	for _, b := range []byte(s) {
		l = append(l, string([]byte{b}))
	}
	return l
}

// words returns all strings of at most most bytes out of letters.
func words(letters string, most int) []string {
	all := []string{""}
	for start, size := 0, 0; size < most; size++ {
		end := len(all)
		for _, word := range all[start:end] {
			for i := range len(letters) {
				all = append(all, word+letters[i:i+1])
			}
		}
		start = end
	}
	return all
}

// lists returns all lists of at most most lines, each a letter out of some.
func lists(some string, most int) [][]string {
	var all [][]string
	for _, word := range words(some, most) {
		all = append(all, letters(word))
	}
	return all
}

// draw returns numbers below n that depend on seed alone.
func draw(seed uint64) func(n int) int {
	return func(n int) int {
		seed = seed*6364136223846793005 + 1442695040888963407
		return int((seed >> 33) % uint64(n))
	}
}

// noise returns n lines out of kinds ones.
func noise(n, kinds int, seed uint64) []string {
	next := draw(seed)
	l := make([]string, 0, n)
	for range n {
		l = append(l, strconv.Itoa(next(kinds))+"\n")
	}
	return l
}

// count returns the lines from to to-1 of a list in which all lines differ.
func count(from, to int) []string {
	var l []string
	for i := from; i < to; i++ {
		l = append(l, strconv.Itoa(i))
	}
	return l
}

// guarded hands a copy of l with spare capacity to use, and fails if use changes any of it.
func guarded[E comparable](t *testing.T, l []E, use func([]E)) {
	t.Helper()
	var spare E
	whole := append(slices.Clone(l), spare, spare, spare)
	before := slices.Clone(whole)
	use(whole[:len(l)])
	if !slices.Equal(whole, before) {
		t.Errorf("an argument of %d elements is changed", len(l))
	}
}

// plainLeast follows P8.1: it writes down all steps first, and finds L by its definition.
func plainLeast(a, b []string) []api.Edit {
	known := make(map[[2]int]int)
	var length func(i, j int) int
	length = func(i, j int) int {
		if i == len(a) || j == len(b) {
			return 0
		}
		n, ok := known[[2]int{i, j}]
		if !ok {
			n = max(length(i+1, j), length(i, j+1))
			if a[i] == b[j] {
				n = max(n, length(i+1, j+1)+1)
			}
			known[[2]int{i, j}] = n
		}
		return n
	}
	steps := ""
	for i, j := 0, 0; i < len(a) || j < len(b); {
		step := byte('+')
		switch {
		case i < len(a) && j < len(b) && a[i] == b[j]:
			step = '='
		case j == len(b) || i < len(a) && length(i+1, j) >= length(i, j+1):
			step = '-'
		}
		steps += string([]byte{step})
		if step != '+' {
			i++
		}
		if step != '-' {
			j++
		}
	}
	return editsOf(steps)
}

// editsOf returns the edits of a string with a byte for each step: '=' keeps a line, '-' deletes one, '+' inserts one.
func editsOf(steps string) []api.Edit {
	var l []api.Edit
	i, j, open := 0, 0, false
	for _, step := range []byte(steps) {
		if step == '=' {
			i, j, open = i+1, j+1, false
			continue
		}
		if !open {
			l, open = append(l, edit(i, 0, j, 0)), true
		}
		if step == '-' {
			l[len(l)-1].Deleted++
			i++
		} else {
			l[len(l)-1].Inserted++
			j++
		}
	}
	return l
}

// expectLeast fails unless Least answers just this.
func expectLeast(t *testing.T, a, b []string, want []api.Edit) {
	t.Helper()
	if got := diff.Least(a, b); !slices.Equal(got, want) {
		t.Errorf("Least(%.80q, %.80q) = %v, want %v", a[:min(len(a), 10)], b[:min(len(b), 10)], got, want)
	}
}

// P8.1: the examples, and what the rule prefers.
func TestLeast(t *testing.T) {
	for _, c := range []struct {
		a, b string
		want []api.Edit
	}{
		{"abc", "bd", []api.Edit{edit(0, 1, 0, 0), edit(2, 1, 1, 1)}},
		{"a", "b", []api.Edit{edit(0, 1, 0, 1)}},
		{"", "", nil},
		{"a", "a", nil},
		{"abc", "abc", nil},
		{"", "abc", []api.Edit{edit(0, 0, 0, 3)}},
		{"abc", "", []api.Edit{edit(0, 3, 0, 0)}},
		{"abc", "abcde", []api.Edit{edit(3, 0, 3, 2)}},
		{"abcde", "abc", []api.Edit{edit(3, 2, 3, 0)}},
		{"abc", "xabc", []api.Edit{edit(0, 0, 0, 1)}},
		{"xabc", "abc", []api.Edit{edit(0, 1, 0, 0)}},
		{"abc", "axc", []api.Edit{edit(1, 1, 1, 1)}},
		{"abc", "axyc", []api.Edit{edit(1, 1, 1, 2)}},
		{"ab", "ba", []api.Edit{edit(0, 1, 0, 0), edit(2, 0, 1, 1)}},
		{"abab", "baba", []api.Edit{edit(0, 1, 0, 0), edit(4, 0, 3, 1)}},
		{"aa", "a", []api.Edit{edit(1, 1, 1, 0)}},
		{"a", "aa", []api.Edit{edit(1, 0, 1, 1)}},
		{"px", "qxx", []api.Edit{edit(0, 1, 0, 1), edit(2, 0, 2, 1)}},
		{"pxx", "qx", []api.Edit{edit(0, 2, 0, 1)}},
		{"abcabba", "cbabac", []api.Edit{edit(0, 2, 0, 0), edit(3, 1, 1, 0), edit(5, 0, 2, 1), edit(7, 0, 5, 1)}},
	} {
		expectLeast(t, letters(c.a), letters(c.b), c.want)
	}
	expectLeast(t, []string{"a\n", "b"}, []string{"a\n", "b\n"}, []api.Edit{edit(1, 1, 1, 1)})
	expectLeast(t, []string{"", "a"}, []string{"a", ""}, []api.Edit{edit(0, 1, 0, 0), edit(2, 0, 1, 1)})
	expectLeast(t, []string{"\x00", "a\nb"}, []string{"\x00", "a", "b"}, []api.Edit{edit(1, 1, 1, 2)})
}

// P8.1: all short lists, against the rule.
func TestLeastPlain(t *testing.T) {
	all := append(lists("abc", 4), lists("ab", 6)...)
	for _, a := range all {
		for _, b := range all {
			expectLeast(t, a, b, plainLeast(a, b))
		}
	}
}

// P8.1: longer lists, against the rule.
func TestLeastLonger(t *testing.T) {
	next := draw(7)
	for seed := range uint64(300) {
		a, b := noise(next(60), 1+next(12), seed), noise(next(60), 1+next(12), seed+1000)
		expectLeast(t, a, b, plainLeast(a, b))
		// A list and one that a few changes make of it.
		b = slices.Clone(a)
		for range next(6) {
			at := next(len(b) + 1)
			b = slices.Insert(b, at, strconv.Itoa(next(5))+"\n")
			b = slices.Delete(b, at/2, at/2+1)
		}
		expectLeast(t, a, b, plainLeast(a, b))
		expectLeast(t, b, a, plainLeast(b, a))
	}
}

// P8.1: at the limit the rule holds, and beyond it all is replaced.
func TestLeastLimit(t *testing.T) {
	full := count(0, api.MaxLines)
	over := count(0, api.MaxLines+1)
	expectLeast(t, full, over[1:], []api.Edit{edit(0, 1, 0, 0), edit(4096, 0, 4095, 1)})
	expectLeast(t, full, full, nil)
	expectLeast(t, full, nil, []api.Edit{edit(0, 4096, 0, 0)})
	expectLeast(t, full, []string{"9"}, []api.Edit{edit(0, 9, 0, 0), edit(10, 4086, 1, 0)})
	expectLeast(t, full, count(5000, 5000+4096), []api.Edit{edit(0, 4096, 0, 4096)})
	expectLeast(t, over, full, []api.Edit{edit(0, 4097, 0, 4096)})
	expectLeast(t, full, over, []api.Edit{edit(0, 4096, 0, 4097)})
	expectLeast(t, over, over[1:], []api.Edit{edit(0, 4097, 0, 4096)})
	expectLeast(t, over, []string{"0"}, []api.Edit{edit(0, 4097, 0, 1)})
	expectLeast(t, []string{"0"}, over, []api.Edit{edit(0, 1, 0, 4097)})
	expectLeast(t, over, nil, []api.Edit{edit(0, 4097, 0, 0)})
	expectLeast(t, nil, over, []api.Edit{edit(0, 0, 0, 4097)})
	expectLeast(t, over, slices.Clone(over), nil)
	expectLeast(t, over, append(count(0, 4096), "x"), []api.Edit{edit(0, 4097, 0, 4097)})
	expectLeast(t, count(0, 1<<17), count(0, 1<<17), nil)
	expectLeast(t, count(0, 1<<17), count(1, 1<<17), []api.Edit{edit(0, 1<<17, 0, 1<<17-1)})
}

// R1: the longest lists, of long lines that are much alike, have their answer in good time, too.
func TestLeastMuch(t *testing.T) {
	long := strings.Repeat("x", 1<<16)
	var alike []string
	for i := range 1 << 8 {
		alike = append(alike, long+strconv.Itoa(1000+i))
	}
	var a, b []string
	for i := range api.MaxLines {
		a = append(a, alike[i%256])
		b = append(b, alike[255-i%256])
	}
	l := diff.Least(a, b)
	if !diff.Valid(a, b, l) {
		t.Error("the script is not valid")
	}
	a, b = noise(api.MaxLines, 2, 1), noise(api.MaxLines, 2, 2)
	if l = diff.Least(a, b); !diff.Valid(a, b, l) || diff.Cost(l) > api.MaxLines {
		t.Error("the script of noise is not valid, or too dear")
	}
	same := slices.Repeat([]string{"y"}, api.MaxLines)
	expectLeast(t, same, append([]string{"x"}, same[1:]...), []api.Edit{edit(0, 1, 0, 1)})
}

// expectValid fails unless Valid answers just this.
func expectValid(t *testing.T, a, b string, want bool, l ...api.Edit) {
	t.Helper()
	if got := diff.Valid(letters(a), letters(b), l); got != want {
		t.Errorf("Valid(%q, %q, %v) = %t", a, b, l, got)
	}
}

// P8.2: each demand on a script by itself.
func TestValid(t *testing.T) {
	expectValid(t, "", "", true)
	expectValid(t, "ab", "ab", true)
	expectValid(t, "ab", "ac", false)
	expectValid(t, "ab", "a", false)
	expectValid(t, "a", "ab", false)
	expectValid(t, "abc", "bd", true, edit(0, 1, 0, 0), edit(2, 1, 1, 1))
	expectValid(t, "ab", "ab", true, edit(0, 2, 0, 2)) // longer than it must be
	expectValid(t, "ab", "ab", true, edit(0, 1, 0, 1))
	expectValid(t, "aab", "ab", true, edit(0, 1, 0, 0))
	expectValid(t, "aab", "ab", true, edit(1, 1, 1, 0))
	expectValid(t, "aab", "ab", false, edit(2, 1, 2, 0))
	expectValid(t, "ab", "cab", true, edit(0, 0, 0, 1))
	expectValid(t, "ab", "abc", true, edit(2, 0, 2, 1))
	expectValid(t, "ab", "abc", false, edit(1, 0, 1, 1))
	// Nothing is deleted or inserted.
	expectValid(t, "ab", "ab", false, edit(0, 0, 0, 0))
	expectValid(t, "ab", "ab", false, edit(1, 0, 1, 0))
	expectValid(t, "ab", "ab", false, edit(2, 0, 2, 0))
	// No unchanged line stands between two edits.
	expectValid(t, "ab", "cd", true, edit(0, 2, 0, 2))
	expectValid(t, "ab", "cd", false, edit(0, 1, 0, 1), edit(1, 1, 1, 1))
	expectValid(t, "ab", "cd", false, edit(0, 2, 0, 0), edit(2, 0, 0, 2))
	expectValid(t, "axb", "cxd", true, edit(0, 1, 0, 1), edit(2, 1, 2, 1))
	// The stretches between the edits differ in size, or in their lines.
	expectValid(t, "axb", "axxb", false)
	expectValid(t, "axb", "cxd", false, edit(0, 1, 0, 1), edit(2, 1, 1, 2))
	expectValid(t, "axb", "cyd", false, edit(0, 1, 0, 1), edit(2, 1, 2, 1))
	expectValid(t, "xa", "ya", false, edit(1, 1, 1, 1))
	expectValid(t, "ax", "ay", false, edit(0, 1, 0, 1))
	expectValid(t, "ab", "ab", false, edit(1, 1, 0, 1))
	// The edits are out of order.
	expectValid(t, "axb", "cxd", false, edit(2, 1, 2, 1), edit(0, 1, 0, 1))
	expectValid(t, "axb", "cxd", false, edit(0, 1, 0, 1), edit(0, 1, 0, 1), edit(2, 1, 2, 1))
	// Beyond the lists, and negative.
	expectValid(t, "a", "", false, edit(0, 2, 0, 0))
	expectValid(t, "", "a", false, edit(0, 0, 0, 2))
	expectValid(t, "a", "a", false, edit(2, 1, 2, 1))
	expectValid(t, "aa", "a", false, edit(0, -1, 0, 1))
	expectValid(t, "aa", "aa", false, edit(-1, 1, -1, 1))
	expectValid(t, "aa", "aa", false, edit(2, -1, 2, -1))
}

// P8.2: numbers so great that their sums wrap around.
func TestValidGreat(t *testing.T) {
	for _, great := range []int{math.MaxInt, math.MaxInt - 1, math.MinInt, math.MinInt + 1, 1 << 32, -1 << 32} {
		for place := range 4 {
			numbers := [4]int{1, 1, 1, 1}
			numbers[place] = great
			one := edit(numbers[0], numbers[1], numbers[2], numbers[3])
			expectValid(t, "abc", "axc", false, one)
			expectValid(t, "abc", "axc", false, edit(1, 1, 1, 1), one)
			if _, e := diff.Apply(letters("abc"), []api.Edit{one}, letters("axc")); e != api.ErrBadScript {
				t.Errorf("Apply of %v = %d", one, e)
			}
		}
		expectValid(t, "abc", "abc", false, edit(great, -great, great, -great))
	}
}

// plainValid follows the definition of a valid script, line by line.
func plainValid(a, b []string, l []api.Edit) bool {
	kept := func(n int, from, size func(api.Edit) int) ([]int, bool) {
		var stretches []int // of each line that is kept, the number of edits before it
		at := 0
		for k, one := range l {
			if size(one) < 0 || from(one) < at || from(one)+size(one) > n {
				return nil, false
			}
			for ; at < from(one); at++ {
				stretches = append(stretches, k)
			}
			at += size(one)
		}
		for ; at < n; at++ {
			stretches = append(stretches, len(l))
		}
		return stretches, true
	}
	inA, okA := kept(len(a), func(e api.Edit) int { return e.From }, func(e api.Edit) int { return e.Deleted })
	inB, okB := kept(len(b), func(e api.Edit) int { return e.To }, func(e api.Edit) int { return e.Inserted })
	if !okA || !okB || !slices.Equal(inA, inB) {
		return false
	}
	for k, one := range l {
		if one.Deleted == 0 && one.Inserted == 0 || k > 0 && !slices.Contains(inA, k) {
			return false
		}
	}
	var keptA, keptB []string
	for i, line := range a {
		if !slices.ContainsFunc(l, func(e api.Edit) bool { return e.From <= i && i < e.From+e.Deleted }) {
			keptA = append(keptA, line)
		}
	}
	for j, line := range b {
		if !slices.ContainsFunc(l, func(e api.Edit) bool { return e.To <= j && j < e.To+e.Inserted }) {
			keptB = append(keptB, line)
		}
	}
	return slices.Equal(keptA, keptB)
}

// smallEdits returns all edits whose numbers are from least to most.
func smallEdits(least, most int) []api.Edit {
	var all []api.Edit
	for from := least; from <= most; from++ {
		for deleted := least; deleted <= most; deleted++ {
			for to := least; to <= most; to++ {
				for inserted := least; inserted <= most; inserted++ {
					all = append(all, edit(from, deleted, to, inserted))
				}
			}
		}
	}
	return all
}

// P8.2: all scripts of two small edits for a few lists, against the definition.
func TestValidPlain(t *testing.T) {
	ones, firsts := smallEdits(-1, 4), smallEdits(-1, 1)
	var valid [3]int // how many valid scripts there are of each size
	for _, a := range lists("ab", 3) {
		for _, b := range lists("ab", 3) {
			check := func(l ...api.Edit) {
				want := plainValid(a, b, l)
				if want {
					valid[len(l)]++
				}
				if got := diff.Valid(a, b, l); got != want {
					t.Fatalf("Valid(%q, %q, %v) = %t", a, b, l, got)
				}
			}
			check()
			for _, one := range ones {
				check(one)
			}
			if len(a)+len(b) < 4 || a[0] != b[0] {
				continue
			}
			for _, first := range firsts {
				for _, one := range ones {
					check(first, one)
				}
			}
		}
	}
	if slices.Min(valid[:]) < 15 {
		t.Errorf("only %d valid scripts were tried", valid)
	}
}

// P8.3: the sum of all, whatever the edits are.
func TestCost(t *testing.T) {
	for _, c := range []struct {
		want int
		l    []api.Edit
	}{
		{0, nil},
		{0, []api.Edit{}},
		{3, []api.Edit{edit(7, 1, 8, 2)}},
		{10, []api.Edit{edit(0, 1, 0, 2), edit(5, 3, 5, 4)}},
		{0, []api.Edit{edit(5, 0, 5, 0)}},
		{-3, []api.Edit{edit(5, 1, 5, -4)}},
		{math.MinInt, []api.Edit{edit(0, math.MaxInt, 0, 1)}},
		{-2, []api.Edit{edit(0, math.MaxInt, 0, math.MaxInt)}},
		{math.MaxInt, []api.Edit{edit(0, math.MinInt, 0, 0), edit(0, -1, 0, 0)}},
	} {
		guarded(t, c.l, func(l []api.Edit) {
			if got := diff.Cost(l); got != c.want {
				t.Errorf("Cost(%v) = %d, want %d", l, got, c.want)
			}
		})
	}
}

// expectApply fails unless Apply answers just this; want is nil for ErrBadScript.
func expectApply(t *testing.T, a, b string, want []string, l ...api.Edit) {
	t.Helper()
	wantE := api.OK
	if want == nil {
		wantE = api.ErrBadScript
	}
	got, e := diff.Apply(letters(a), l, letters(b))
	if !slices.Equal(got, want) || e != wantE {
		t.Errorf("Apply(%q, %v, %q) = %q, %d, want %q, %d", a, l, b, got, e, want, wantE)
	}
}

// P8.4: edits that fit; what is unchanged is not compared, and need not be of one size in both lists.
func TestApply(t *testing.T) {
	expectApply(t, "", "", []string{})
	expectApply(t, "abc", "xyz", letters("abc"))
	expectApply(t, "abc", "bd", letters("bd"), edit(0, 1, 0, 0), edit(2, 1, 1, 1))
	expectApply(t, "a", "b", letters("b"), edit(0, 1, 0, 1))
	expectApply(t, "abc", "", []string{}, edit(0, 3, 0, 0))
	expectApply(t, "", "abc", letters("abc"), edit(0, 0, 0, 3))
	expectApply(t, "abc", "xyz", letters("axc"), edit(1, 1, 0, 1))
	expectApply(t, "abc", "xyz", letters("ayzbc"), edit(1, 0, 1, 2))
	expectApply(t, "abc", "xyz", letters("abcz"), edit(3, 0, 2, 1))
	expectApply(t, "abc", "xyz", letters("xbz"), edit(0, 1, 0, 1), edit(2, 1, 2, 1))
	// Edits that no unchanged line separates, and edits that change nothing.
	expectApply(t, "abc", "xyz", letters("xyc"), edit(0, 1, 0, 1), edit(1, 1, 1, 1))
	expectApply(t, "abc", "xyz", letters("yz"), edit(0, 3, 0, 0), edit(3, 0, 1, 2))
	expectApply(t, "abc", "xyz", letters("abc"), edit(0, 0, 0, 0), edit(0, 0, 0, 0), edit(3, 0, 3, 0))
	expectApply(t, "abc", "xyz", letters("xyabc"), edit(0, 0, 0, 1), edit(0, 0, 1, 1))
}

// P8.4: edits that don't fit.
func TestApplyBad(t *testing.T) {
	for _, c := range [][]api.Edit{
		{edit(-1, 1, 0, 0)},
		{edit(0, -1, 0, 0)},
		{edit(0, 0, -1, 1)},
		{edit(0, 0, 0, -1)},
		{edit(1, -1, 1, 1)},
		{edit(1, 1, 1, -1)},
		{edit(0, 4, 0, 0)},
		{edit(1, 3, 0, 0)},
		{edit(4, 0, 0, 0)},
		{edit(0, 0, 0, 4)},
		{edit(0, 0, 1, 3)},
		{edit(0, 0, 4, 0)},
		{edit(1, 1, 0, 0), edit(0, 1, 0, 0)},
		{edit(1, 1, 0, 0), edit(1, 1, 0, 0)},
		{edit(1, 1, 0, 0), edit(1, 0, 0, 0)},
		{edit(0, 0, 1, 1), edit(0, 0, 0, 1)},
		{edit(0, 0, 1, 1), edit(0, 0, 1, 1)},
		{edit(0, 0, 1, 1), edit(0, 0, 1, 0)},
		{edit(1, 0, 1, 2), edit(2, 0, 0, 1)},
		{edit(0, 1, 0, 1), edit(2, 1, 2, 1), edit(3, 1, 3, 0)},
		{edit(4, 0, 0, 0), edit(0, 1, 0, 1)},
	} {
		expectApply(t, "abc", "xyz", nil, c...)
	}
}

// plainApply follows P8.4 for numbers that are small.
func plainApply(a []string, l []api.Edit, b []string) ([]string, api.Errno) {
	var got []string
	rest, endA, endB := a, 0, 0
	for _, one := range l {
		if min(one.From, one.Deleted, one.To, one.Inserted) < 0 || one.From < endA || one.To < endB || one.From+one.Deleted > len(a) || one.To+one.Inserted > len(b) {
			return nil, api.ErrBadScript
		}
		got = slices.Concat(got, rest[:one.From-endA], b[one.To:one.To+one.Inserted])
		endA, endB = one.From+one.Deleted, one.To+one.Inserted
		rest = a[endA:]
	}
	return slices.Concat(got, rest), api.OK
}

// P8.4: all pairs of small edits, against the definition.
func TestApplyPlain(t *testing.T) {
	a, b := letters("ab"), letters("xy")
	ones := smallEdits(-1, 3)
	for _, one := range ones {
		for _, two := range ones {
			l := []api.Edit{one, two}
			want, wantE := plainApply(a, l, b)
			if got, e := diff.Apply(a, l, b); !slices.Equal(got, want) || e != wantE {
				t.Fatalf("Apply of %v = %q, %d, want %q, %d", l, got, e, want, wantE)
			}
		}
	}
}

// P8.5: any edits stay in their order, with their sides exchanged.
func TestInvert(t *testing.T) {
	for _, c := range []struct{ l, want []api.Edit }{
		{nil, nil},
		{[]api.Edit{edit(1, 2, 3, 4)}, []api.Edit{edit(3, 4, 1, 2)}},
		{[]api.Edit{edit(5, 1, 6, 0), edit(1, 2, 3, 4), edit(0, 0, 0, 0)}, []api.Edit{edit(6, 0, 5, 1), edit(3, 4, 1, 2), edit(0, 0, 0, 0)}},
		{[]api.Edit{edit(-1, math.MinInt, 3, math.MaxInt)}, []api.Edit{edit(3, math.MaxInt, -1, math.MinInt)}},
	} {
		guarded(t, c.l, func(l []api.Edit) {
			if got := diff.Invert(l); !slices.Equal(got, c.want) {
				t.Errorf("Invert(%v) = %v, want %v", l, got, c.want)
			}
		})
	}
}

// run returns a run of n lines from a and b on.
func run(a, b, n int) api.Run {
	return api.Run{A: a, B: b, N: n}
}

// P8.6: the runs between the edits, for any edits; sums wrap around.
func TestUnchanged(t *testing.T) {
	for _, c := range []struct {
		n    int
		l    []api.Edit
		want []api.Run
	}{
		{0, nil, nil},
		{3, nil, []api.Run{run(0, 0, 3)}},
		{-1, nil, nil},
		{3, []api.Edit{edit(0, 1, 0, 0), edit(2, 1, 1, 1)}, []api.Run{run(1, 0, 1)}},
		{5, []api.Edit{edit(1, 1, 1, 2)}, []api.Run{run(0, 0, 1), run(2, 3, 3)}},
		{2, []api.Edit{edit(0, 2, 0, 1)}, nil},
		{2, []api.Edit{edit(2, 0, 2, 4)}, []api.Run{run(0, 0, 2)}},
		{1, []api.Edit{edit(0, 3, 0, 1)}, nil},
		// To alone tells nothing, but where the next run starts.
		{4, []api.Edit{edit(1, 0, 7, 2)}, []api.Run{run(0, 0, 1), run(1, 9, 3)}},
		// Edits out of order, on top of each other, and beyond the list.
		{4, []api.Edit{edit(3, 1, 3, 1), edit(1, 1, 1, 1)}, []api.Run{run(0, 0, 3), run(2, 2, 2)}},
		{4, []api.Edit{edit(2, 0, 2, 0), edit(2, 0, 2, 0)}, []api.Run{run(0, 0, 2), run(2, 2, 2)}},
		{2, []api.Edit{edit(5, 1, 5, 1)}, []api.Run{run(0, 0, 5)}},
		{2, []api.Edit{edit(1, -3, 1, -4)}, []api.Run{run(0, 0, 1), run(-2, -3, 4)}},
		{0, []api.Edit{edit(-5, 2, -6, 1)}, []api.Run{run(-3, -5, 3)}},
		{0, []api.Edit{edit(0, 0, 0, 0)}, nil},
		{0, []api.Edit{edit(math.MaxInt, 1, 0, 0)}, []api.Run{run(0, 0, math.MaxInt), run(math.MinInt, 0, math.MinInt)}},
		{math.MinInt, []api.Edit{edit(math.MaxInt, 1, math.MaxInt, 2)}, []api.Run{run(0, 0, math.MaxInt)}},
		{-3, []api.Edit{edit(-4, 0, math.MaxInt, 2)}, []api.Run{run(-4, math.MinInt+1, 1)}},
		{math.MaxInt, []api.Edit{edit(-2, 0, 0, 0)}, []api.Run{run(-2, 0, math.MinInt+1)}},
		{math.MaxInt, nil, []api.Run{run(0, 0, math.MaxInt)}},
	} {
		guarded(t, c.l, func(l []api.Edit) {
			if got := diff.Unchanged(l, c.n); !slices.Equal(got, c.want) {
				t.Errorf("Unchanged(%v, %d) = %v, want %v", l, c.n, got, c.want)
			}
		})
	}
}

// P8.7: an edit for each gap, none where runs follow each other in both lists.
func TestFromRuns(t *testing.T) {
	for _, c := range []struct {
		n, m int
		l    []api.Run
		want []api.Edit
	}{
		{0, 0, nil, nil},
		{3, 4, nil, []api.Edit{edit(0, 3, 0, 4)}},
		{0, 4, nil, []api.Edit{edit(0, 0, 0, 4)}},
		{3, 0, nil, []api.Edit{edit(0, 3, 0, 0)}},
		{3, 3, []api.Run{run(0, 0, 3)}, nil},
		{3, 2, []api.Run{run(1, 0, 1)}, []api.Edit{edit(0, 1, 0, 0), edit(2, 1, 1, 1)}},
		{3, 5, []api.Run{run(0, 0, 3)}, []api.Edit{edit(3, 0, 3, 2)}},
		{3, 5, []api.Run{run(0, 2, 3)}, []api.Edit{edit(0, 0, 0, 2)}},
		{5, 5, []api.Run{run(0, 0, 1), run(2, 1, 1), run(4, 4, 1)}, []api.Edit{edit(1, 1, 1, 0), edit(3, 1, 2, 2)}},
		{4, 4, []api.Run{run(0, 0, 1), run(1, 1, 2), run(3, 3, 1)}, nil},
		{4, 5, []api.Run{run(0, 0, 1), run(1, 2, 3)}, []api.Edit{edit(1, 0, 1, 1)}},
		{math.MaxInt, math.MaxInt, []api.Run{run(1, 2, 3)}, []api.Edit{edit(0, 1, 0, 2), edit(4, math.MaxInt-4, 5, math.MaxInt-5)}},
		{math.MaxInt, math.MaxInt, []api.Run{run(0, 0, math.MaxInt)}, nil},
	} {
		guarded(t, c.l, func(l []api.Run) {
			if got := diff.FromRuns(c.n, c.m, l); !slices.Equal(got, c.want) {
				t.Errorf("FromRuns(%d, %d, %v) = %v, want %v", c.n, c.m, l, got, c.want)
			}
		})
	}
}

// P8.7: no edits for runs that aren't in the lists, in order.
func TestFromRunsWrong(t *testing.T) {
	for _, c := range []struct {
		n, m int
		l    []api.Run
	}{
		{-1, 3, nil},
		{3, -1, nil},
		{-1, -1, nil},
		{math.MinInt, 1, nil},
		{4, 4, []api.Run{run(1, 1, 0)}},
		{4, 4, []api.Run{run(1, 1, -1)}},
		{4, 4, []api.Run{run(-1, 1, 1)}},
		{4, 4, []api.Run{run(1, -1, 1)}},
		{4, 4, []api.Run{run(4, 1, 1)}},
		{4, 4, []api.Run{run(1, 4, 1)}},
		{4, 4, []api.Run{run(2, 1, 3)}},
		{4, 4, []api.Run{run(1, 2, 3)}},
		{4, 4, []api.Run{run(4, 4, 0)}},
		{4, 4, []api.Run{run(1, 1, 2), run(2, 3, 1)}},
		{4, 4, []api.Run{run(1, 1, 2), run(3, 2, 1)}},
		{4, 4, []api.Run{run(1, 1, 2), run(0, 0, 1)}},
		{4, 4, []api.Run{run(1, 1, 1), run(3, 3, 0)}},
		{4, 4, []api.Run{run(1, 1, math.MaxInt)}},
		{math.MaxInt, math.MaxInt, []api.Run{run(1, 0, math.MaxInt)}},
		{math.MaxInt, math.MaxInt, []api.Run{run(0, 1, math.MaxInt)}},
		{4, 4, []api.Run{run(math.MaxInt, 1, math.MaxInt)}},
		{4, 4, []api.Run{run(math.MinInt, 1, 1)}},
		{4, 4, []api.Run{run(1, 1, math.MinInt)}},
	} {
		if got := diff.FromRuns(c.n, c.m, c.l); len(got) != 0 {
			t.Errorf("FromRuns(%d, %d, %v) = %v", c.n, c.m, c.l, got)
		}
	}
}

// mostKept returns the size of the greatest selection of lines of a that stands in b, trying them all.
func mostKept(a, b []string) int {
	most := 0
	for chosen := range 1 << len(a) {
		size, at := 0, 0
		for i, line := range a {
			if chosen>>i&1 == 0 {
				continue
			}
			for at < len(b) && b[at] != line {
				at++
			}
			if at == len(b) {
				size = -1
				break
			}
			size, at = size+1, at+1
		}
		most = max(most, size)
	}
	return most
}

// P8.8: Least is valid, and no script is cheaper.
func TestMinimality(t *testing.T) {
	all := append(lists("abc", 4), lists("ab", 5)...)
	for _, a := range all {
		for _, b := range all {
			l := diff.Least(a, b)
			if !diff.Valid(a, b, l) || diff.Cost(l) != len(a)+len(b)-2*mostKept(a, b) {
				t.Fatalf("Least(%q, %q) = %v", a, b, l)
			}
			kept := 0
			for _, one := range diff.Unchanged(l, len(a)) {
				kept += one.N
			}
			if diff.Cost(l) != len(a)+len(b)-2*kept {
				t.Fatalf("the cost of %v is %d, for %d lines kept", l, diff.Cost(l), kept)
			}
		}
	}
}

// scripts hands valid scripts from a to b to use: the least one, and those that keep a run less.
func scripts(a, b []string, use func(l []api.Edit)) {
	least := diff.Least(a, b)
	use(least)
	runs := diff.Unchanged(least, len(a))
	for k := range runs {
		use(diff.FromRuns(len(a), len(b), slices.Delete(slices.Clone(runs), k, k+1)))
	}
}

// P8.9: a script yields b, and its inverse, which costs the same, yields a.
func TestInversion(t *testing.T) {
	check := func(a, b []string) {
		scripts(a, b, func(l []api.Edit) {
			inverse := diff.Invert(l)
			if got, e := diff.Apply(a, l, b); !slices.Equal(got, b) || e != api.OK {
				t.Fatalf("Apply(%q, %v, %q) = %q, %d", a, l, b, got, e)
			}
			if got, e := diff.Apply(b, inverse, a); !slices.Equal(got, a) || e != api.OK {
				t.Fatalf("Apply(%q, %v, %q) = %q, %d", b, inverse, a, got, e)
			}
			if !diff.Valid(a, b, l) || !diff.Valid(b, a, inverse) || diff.Cost(inverse) != diff.Cost(l) || !slices.Equal(diff.Invert(inverse), l) {
				t.Fatalf("%v is no inverse of %v", inverse, l)
			}
		})
	}
	for _, a := range lists("abc", 4) {
		for _, b := range lists("abc", 4) {
			check(a, b)
		}
	}
	check(noise(800, 20, 1), noise(900, 20, 2))
	check(count(0, 5000), count(1, 5001))
}

// P8.10: what a script leaves unchanged makes the script again.
func TestRuns(t *testing.T) {
	check := func(a, b []string) {
		scripts(a, b, func(l []api.Edit) {
			if got := diff.FromRuns(len(a), len(b), diff.Unchanged(l, len(a))); !slices.Equal(got, l) {
				t.Fatalf("%v comes back as %v", l, got)
			}
		})
	}
	for _, a := range lists("abc", 4) {
		for _, b := range lists("abc", 4) {
			check(a, b)
		}
	}
	check(noise(800, 20, 3), noise(900, 20, 4))
}

// R3: no call changes its arguments, nor the capacity behind them.
func TestArgumentsStay(t *testing.T) {
	l := []api.Edit{edit(0, 1, 0, 0), edit(2, 1, 1, 1)}
	guarded(t, letters("abc"), func(a []string) {
		guarded(t, letters("bd"), func(b []string) {
			guarded(t, l, func(l []api.Edit) {
				diff.Least(a, b)
				diff.Valid(a, b, l)
				diff.Apply(a, l, b)
				diff.Apply(a, nil, b)
				diff.Apply(nil, []api.Edit{edit(0, 0, 0, 1)}, b)
			})
		})
	})
}

// R3: what is answered is new memory.
func TestNewMemory(t *testing.T) {
	a, b := letters("abc"), letters("xyz")
	for _, l := range [][]api.Edit{nil, {edit(0, 0, 0, 3)}, {edit(0, 3, 0, 3)}, {edit(3, 0, 0, 1)}} {
		got, _ := diff.Apply(a, l, b)
		for i := range got {
			got[i] = "?"
		}
		if !slices.Equal(a, letters("abc")) || !slices.Equal(b, letters("xyz")) {
			t.Fatalf("the answer for %v shares memory", l)
		}
	}
	l := []api.Edit{edit(1, 1, 1, 1)}
	diff.Invert(l)[0].From = 9
	if l[0].From != 1 {
		t.Error("the answer of Invert shares memory")
	}
}
