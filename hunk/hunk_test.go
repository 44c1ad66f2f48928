package hunk_test

import (
	"math"
	"slices"
	"strconv"
	"strings"
	"testing"

	"graftage/api"
	"graftage/diff"
	"graftage/hunk"
	"graftage/lines"
)

// edit returns an edit, from its numbers in the order in which api.Edit declares them.
func edit(from, deleted, to, inserted int) api.Edit {
	return api.Edit{From: from, Deleted: deleted, To: to, Inserted: inserted}
}

// line returns the hunk line that a line of the text form stands for; a sign "?" makes one of no kind.
func line(s string) api.HunkLine {
	return api.HunkLine{Kind: strings.Index("? -+", s[:1]), Text: s[1:]}
}

// of returns a hunk of lines in their text form, each with a line feed to come.
func of(from, to int, l ...string) api.Hunk {
	h := api.Hunk{From: from, To: to}
	for _, s := range l {
		h.Lines = append(h.Lines, line(s+"\n"))
	}
	return h
}

// bare returns a hunk of lines in their text form, as they are.
func bare(from, to int, l ...string) api.Hunk {
	h := api.Hunk{From: from, To: to}
	for _, s := range l {
		h.Lines = append(h.Lines, line(s))
	}
	return h
}

// letters returns a list with a line for each byte of s, but an exclamation mark takes the line feed off the line before it.
func letters(s string) []string {
	var l []string
	for _, b := range []byte(s) {
		if b == '!' {
			l[len(l)-1] = strings.TrimSuffix(l[len(l)-1], "\n")
			continue
		}
		l = append(l, string([]byte{b, '\n'}))
	}
	return l
}

// lists returns all lists of at most most lines, each a letter out of some, with and without a line feed at the end.
func lists(some string, most int) [][]string {
	words := []string{""}
	for start, size := 0, 0; size < most; size++ {
		end := len(words)
		for _, word := range words[start:end] {
			for i := range len(some) {
				words = append(words, word+some[i:i+1])
			}
		}
		start = end
	}
	var all [][]string
	for _, word := range words {
		all = append(all, letters(word))
		if word != "" {
			all = append(all, letters(word+"!"))
		}
	}
	return all
}

// draw returns numbers below n that depend on seed alone.
func draw(seed uint64) func(n int) int {
	return func(n int) int {
		seed = seed*6364136223846793005 + 1442695040888963407
		return int((seed >> 33) % uint64(n))
	}
}

// noise returns n lines out of kinds ones.
func noise(n, kinds int, seed uint64) []string {
	next := draw(seed)
	l := make([]string, 0, n)
	for range n {
		l = append(l, strconv.Itoa(next(kinds))+"\n")
	}
	return l
}

// count returns the lines from to to-1 of a list in which all lines differ.
func count(from, to int) []string {
	var l []string
	for i := from; i < to; i++ {
		l = append(l, strconv.Itoa(i)+"\n")
	}
	return l
}

// times returns n lines that are alike.
func times(n int, line string) []string {
	return slices.Repeat([]string{line}, n)
}

// same reports whether two lists of hunks are equal.
func same(l, m []api.Hunk) bool {
	return slices.EqualFunc(l, m, func(one, other api.Hunk) bool {
		return one.From == other.From && one.To == other.To && slices.Equal(one.Lines, other.Lines)
	})
}

// plainOf follows the definition of a context: it marks each line of the script that is near an edit, and puts marked lines that follow each other into one hunk.
func plainOf(a, b []string, l []api.Edit, around int) []api.Hunk {
	around = max(0, min(around, 64))
	var steps []api.HunkLine
	i := 0
	for _, one := range append(slices.Clone(l), edit(len(a), 0, len(b), 0)) {
		for ; i < one.From; i++ {
			steps = append(steps, api.HunkLine{Kind: api.LineContext, Text: a[i]})
		}
		for ; i < one.From+one.Deleted; i++ {
			steps = append(steps, api.HunkLine{Kind: api.LineDeleted, Text: a[i]})
		}
		for _, text := range b[one.To : one.To+one.Inserted] {
			steps = append(steps, api.HunkLine{Kind: api.LineAdded, Text: text})
		}
	}
	near := make([]bool, len(steps))
	for k, step := range steps {
		for d := -around; d <= around && step.Kind != api.LineContext; d++ {
			if k+d >= 0 && k+d < len(steps) {
				near[k+d] = true
			}
		}
	}
	var out []api.Hunk
	from, to := 0, 0
	for k, step := range steps {
		if near[k] {
			if k == 0 || !near[k-1] {
				out = append(out, api.Hunk{From: from, To: to})
			}
			out[len(out)-1].Lines = append(out[len(out)-1].Lines, step)
		}
		if step.Kind != api.LineAdded {
			from++
		}
		if step.Kind != api.LineDeleted {
			to++
		}
	}
	return out
}

// expectOf fails unless Of answers just these hunks.
func expectOf(t *testing.T, a, b []string, l []api.Edit, around int, want ...api.Hunk) {
	t.Helper()
	if got := hunk.Of(a, b, l, around); !same(got, want) {
		t.Errorf("Of(%.80q, %.80q, %v, %d) = %v, want %v", a[:min(len(a), 10)], b[:min(len(b), 10)], l, around, got, want)
	}
}

// P10.1: the example, and how much context there is.
func TestOf(t *testing.T) {
	abc, axc := letters("abc"), letters("axc")
	change := []api.Edit{edit(1, 1, 1, 1)}
	whole := of(0, 0, " a", "-b", "+x", " c")
	expectOf(t, abc, axc, change, 1, whole)
	expectOf(t, abc, axc, change, 2, whole)
	expectOf(t, abc, axc, change, 0, of(1, 1, "-b", "+x"))
	expectOf(t, abc, axc, change, -1, of(1, 1, "-b", "+x"))
	expectOf(t, abc, axc, change, math.MinInt, of(1, 1, "-b", "+x"))
	expectOf(t, abc, axc, change, math.MaxInt, whole)
	expectOf(t, abc, abc, nil, 3)
	expectOf(t, nil, nil, nil, 3)
	expectOf(t, nil, letters("ab!"), []api.Edit{edit(0, 0, 0, 2)}, 3, bare(0, 0, "+a\n", "+b"))
	expectOf(t, letters("ab"), nil, []api.Edit{edit(0, 2, 0, 0)}, 3, of(0, 0, "-a", "-b"))
	expectOf(t, letters("ab!"), letters("ab"), []api.Edit{edit(1, 1, 1, 1)}, 1, bare(0, 0, " a\n", "-b", "+b\n"))
	// Two edits with 1 to 3 lines between.
	two := []api.Edit{edit(1, 1, 1, 0), edit(3, 0, 2, 1)}
	expectOf(t, letters("abcde"), letters("acxde"), two, 0, of(1, 1, "-b"), of(3, 2, "+x"))
	expectOf(t, letters("abcde"), letters("acxde"), two, 1, of(0, 0, " a", "-b", " c", "+x", " d"))
	two = []api.Edit{edit(1, 1, 1, 0), edit(4, 0, 3, 1)}
	expectOf(t, letters("abcdef"), letters("acdxef"), two, 1, of(0, 0, " a", "-b", " c", " d", "+x", " e"))
	two = []api.Edit{edit(1, 1, 1, 0), edit(5, 0, 4, 1)}
	expectOf(t, letters("abcdefg"), letters("acdexfg"), two, 1, of(0, 0, " a", "-b", " c"), of(4, 3, " e", "+x", " f"))
	expectOf(t, letters("abcdefg"), letters("acdexfg"), two, 2, of(0, 0, " a", "-b", " c", " d", " e", "+x", " f", " g"))
}

// P10.1: nothing for scripts that aren't valid.
func TestOfInvalid(t *testing.T) {
	abc, axc := letters("abc"), letters("axc")
	for _, l := range [][]api.Edit{
		nil,
		{edit(1, 1, 1, 0)},
		{edit(0, 1, 0, 1)},
		{edit(1, 1, 1, 1), edit(2, 0, 2, 0)},
		{edit(0, 1, 0, 1), edit(1, 1, 1, 1)},
		{edit(-1, 1, 1, 1)},
		{edit(1, 9, 1, 9)},
	} {
		expectOf(t, abc, axc, l, 3)
	}
}

// P10.1: the context has at most 64 lines, and the lists have at most MaxLines.
func TestOfLimits(t *testing.T) {
	a := count(0, 300)
	for gap := 126; gap <= 130; gap++ {
		l := []api.Edit{edit(80, 1, 80, 0), edit(81+gap, 1, 80+gap, 0)}
		b := slices.Concat(a[:80], a[81:81+gap], a[82+gap:])
		for _, around := range []int{63, 64, 65, 1000} {
			got := hunk.Of(a, b, l, around)
			if !same(got, plainOf(a, b, l, around)) || got[0].From != 80-min(around, 64) || (len(got) == 1) != (gap <= 2*min(around, 64)) {
				t.Errorf("with %d lines between and %d around, Of = %v", gap, around, got)
			}
		}
	}
	full, over := count(0, api.MaxLines), count(0, api.MaxLines+1)
	expectOf(t, full, full[1:], []api.Edit{edit(0, 1, 0, 0)}, 0, of(0, 0, "-0"))
	expectOf(t, full[1:], full, []api.Edit{edit(0, 0, 0, 1)}, 0, of(0, 0, "+0"))
	expectOf(t, over, over[1:], []api.Edit{edit(0, 1, 0, 0)}, 0)
	expectOf(t, over[1:], over, []api.Edit{edit(0, 0, 0, 1)}, 0)
}

// scripts hands valid scripts from a to b to use: the least one, and those that keep a run less.
func scripts(a, b []string, use func(l []api.Edit)) {
	least := diff.Least(a, b)
	use(least)
	runs := diff.Unchanged(least, len(a))
	for k := range runs {
		use(diff.FromRuns(len(a), len(b), slices.Delete(slices.Clone(runs), k, k+1)))
	}
}

// cases hands lists, a script from one to the other and a number of lines of context to use: all short lists, and some longer ones.
func cases(use func(a, b []string, l []api.Edit, around int)) {
	all := append(lists("ab", 4), lists("abc", 3)...)
	for _, a := range all {
		for _, b := range all {
			scripts(a, b, func(l []api.Edit) {
				for around := range 3 {
					use(a, b, l, around)
				}
			})
		}
	}
	next := draw(3)
	for seed := range uint64(200) {
		a := noise(next(120), 1+next(30), seed)
		b := slices.Clone(a)
		for range next(12) {
			b = slices.Insert(b, next(len(b)+1), strconv.Itoa(next(20))+"\n")
			at := next(len(b))
			b = slices.Delete(b, at, at+next(2))
		}
		if next(3) == 0 {
			a = append(a, "z")
		}
		if next(3) == 0 {
			b = append(b, "z")
		}
		scripts(a, b, func(l []api.Edit) { use(a, b, l, next(9)) })
	}
}

// P10.1: all short lists and some longer ones, against the definition.
func TestOfPlain(t *testing.T) {
	cases(func(a, b []string, l []api.Edit, around int) {
		expectOf(t, a, b, l, around, plainOf(a, b, l, around)...)
	})
}

// P10.2: an edit for each run of changed lines.
func TestEdits(t *testing.T) {
	for _, c := range []struct {
		l    []api.Hunk
		want []api.Edit
	}{
		{nil, nil},
		{[]api.Hunk{of(0, 0, " a", "-b", "+x", " c")}, []api.Edit{edit(1, 1, 1, 1)}},
		{[]api.Hunk{of(0, 0, "-a", "-b")}, []api.Edit{edit(0, 2, 0, 0)}},
		{[]api.Hunk{of(7, 7, "+a", "+b")}, []api.Edit{edit(7, 0, 7, 2)}},
		{[]api.Hunk{of(2, 2, "-a", "+x", " b", "+y", "+z", " c", "-d", " e")}, []api.Edit{edit(2, 1, 2, 1), edit(4, 0, 4, 2), edit(5, 1, 7, 0)}},
		{[]api.Hunk{of(1, 1, "-a", "-b", "+x"), of(4, 3, " a", "+x", "+y"), of(6, 7, "-c")}, []api.Edit{edit(1, 2, 1, 1), edit(5, 0, 4, 2), edit(6, 1, 7, 0)}},
		{[]api.Hunk{of(0, 0, " a", " b")}, nil},
		{[]api.Hunk{of(1, 0, "-a")}, nil},
		{[]api.Hunk{of(0, 0, "-a"), of(1, 0, "-a")}, nil},
		{[]api.Hunk{of(0, 0, "-a"), of(2, 1, "?a")}, nil},
	} {
		if got := hunk.Edits(c.l); !slices.Equal(got, c.want) {
			t.Errorf("Edits(%v) = %v, want %v", c.l, got, c.want)
		}
	}
}

// plainValid follows the definition, for numbers that are small.
func plainValid(l []api.Hunk) bool {
	drift, end := 0, -1
	for k, h := range l {
		if h.From < 0 || h.From > api.MaxLines || h.From <= end || h.To != h.From+drift {
			return false
		}
		deleted, inserted, unchanged := 0, 0, 0
		for i, one := range h.Lines {
			switch one.Kind {
			case api.LineContext:
				unchanged++
			case api.LineDeleted:
				deleted++
			case api.LineAdded:
				inserted++
			default:
				return false
			}
			if at := strings.Index(one.Text, "\n"); one.Text == "" || at >= 0 && at != len(one.Text)-1 {
				return false
			}
			if one.Kind == api.LineDeleted && i > 0 && h.Lines[i-1].Kind == api.LineAdded {
				return false
			}
			if strings.HasSuffix(one.Text, "\n") {
				continue
			}
			for _, other := range h.Lines[i+1:] {
				if one.Kind == other.Kind || one.Kind == api.LineContext || other.Kind == api.LineContext {
					return false
				}
			}
			if k < len(l)-1 {
				return false
			}
		}
		end = h.From + unchanged + deleted
		drift += inserted - deleted
		if deleted+inserted == 0 || end > api.MaxLines || h.To+unchanged+inserted > api.MaxLines {
			return false
		}
	}
	return true
}

// P10.3: what each rule forbids, and what it doesn't.
func TestValid(t *testing.T) {
	full := func(sign string, n int) []string { return times(n, sign+"x") }
	for _, c := range []struct {
		l    []api.Hunk
		want bool
	}{
		{nil, true},
		{[]api.Hunk{{}}, false},
		{[]api.Hunk{of(0, 0, "-a")}, true},
		{[]api.Hunk{of(0, 0, "+a")}, true},
		{[]api.Hunk{of(0, 0, " a")}, false},
		{[]api.Hunk{of(0, 0, "-")}, true},
		{[]api.Hunk{of(0, 0, " \r", "-\x00\xff")}, true},
		// Where it starts.
		{[]api.Hunk{of(9, 9, "-a")}, true},
		{[]api.Hunk{of(-1, -1, "-a")}, false},
		{[]api.Hunk{of(0, 1, "-a")}, false},
		{[]api.Hunk{of(1, 0, "-a")}, false},
		{[]api.Hunk{of(math.MaxInt, math.MaxInt, "-a")}, false},
		{[]api.Hunk{of(math.MinInt, math.MinInt, "-a")}, false},
		{[]api.Hunk{of(math.MaxInt, math.MaxInt, "+a")}, false},
		// What its lines are.
		{[]api.Hunk{of(0, 0, "-a", "?b")}, false},
		{[]api.Hunk{{Lines: []api.HunkLine{{Kind: api.LineAdded + 1, Text: "a\n"}}}}, false},
		{[]api.Hunk{{Lines: []api.HunkLine{{Kind: -1, Text: "a\n"}}}}, false},
		{[]api.Hunk{bare(0, 0, "-")}, false},
		{[]api.Hunk{bare(0, 0, " a\n", "+")}, false},
		{[]api.Hunk{bare(0, 0, "-a\nb")}, false},
		{[]api.Hunk{bare(0, 0, "-a\nb\n")}, false},
		{[]api.Hunk{bare(0, 0, "-\n\n")}, false},
		{[]api.Hunk{of(0, 0, "+a", "-b")}, false},
		{[]api.Hunk{of(0, 0, "+a", " c", "-b")}, true},
		{[]api.Hunk{of(0, 0, "-a", "+b", "-c")}, false},
		{[]api.Hunk{of(0, 0, "-a", "-b", "+c", "+d", " e", "-f", "+g")}, true},
		// Lines without a line feed.
		{[]api.Hunk{bare(0, 0, "-a")}, true},
		{[]api.Hunk{bare(0, 0, "+a")}, true},
		{[]api.Hunk{bare(0, 0, "-a\n", " b")}, true},
		{[]api.Hunk{bare(0, 0, "-a", "+a")}, true},
		{[]api.Hunk{bare(0, 0, "-a", "+a\n")}, true},
		{[]api.Hunk{bare(0, 0, "-a", "+a\n", "+b")}, true},
		{[]api.Hunk{bare(0, 0, "-a\n", "+a")}, true},
		{[]api.Hunk{bare(0, 0, "-a", "-b\n")}, false},
		{[]api.Hunk{bare(0, 0, "-a", " b\n")}, false},
		{[]api.Hunk{bare(0, 0, "-a", "+b\n", " c\n")}, false},
		{[]api.Hunk{bare(0, 0, "+a", "+b\n")}, false},
		{[]api.Hunk{bare(0, 0, "+a", " b\n")}, false},
		{[]api.Hunk{bare(0, 0, " a", "-b\n")}, false},
		{[]api.Hunk{bare(0, 0, " a", "+b\n")}, false},
		{[]api.Hunk{bare(0, 0, "-b\n", " a", " a\n")}, false},
		{[]api.Hunk{bare(0, 0, "-b\n", " a", "+a\n")}, false},
		{[]api.Hunk{bare(0, 0, "-a"), of(2, 1, "-b")}, false},
		{[]api.Hunk{bare(0, 0, "+a"), of(2, 3, "-b")}, false},
		{[]api.Hunk{bare(0, 0, "-b\n", " a"), of(3, 2, "-b")}, false},
		{[]api.Hunk{bare(0, 0, "-b\n"), bare(3, 2, "-b")}, true},
		// Where others start.
		{[]api.Hunk{of(0, 0, "-a"), of(2, 1, "-b")}, true},
		{[]api.Hunk{of(0, 0, "-a"), of(1, 0, "-b")}, false},
		{[]api.Hunk{of(0, 0, "-a"), of(0, -1, "-b")}, false},
		{[]api.Hunk{of(0, 0, "-a"), of(2, 2, "-b")}, false},
		{[]api.Hunk{of(0, 0, "+a"), of(1, 2, "+b")}, true},
		{[]api.Hunk{of(0, 0, "+a"), of(0, 1, "+b")}, false},
		{[]api.Hunk{of(0, 0, "+a"), of(1, 1, "+b")}, false},
		{[]api.Hunk{of(5, 5, " a", "-b", "+c", " d", "+e"), of(9, 10, "-f"), of(11, 11, "+g")}, true},
		{[]api.Hunk{of(5, 5, "-a"), of(3, 2, "-b")}, false},
		{[]api.Hunk{of(0, 0, " a"), of(2, 2, "-b")}, false},
		{[]api.Hunk{of(0, 0, "-a"), {From: 2, To: 1}}, false},
		// How many lines there are.
		{[]api.Hunk{of(4095, 4095, "-a")}, true},
		{[]api.Hunk{of(4096, 4096, "-a")}, false},
		{[]api.Hunk{of(4095, 4095, "+a")}, true},
		{[]api.Hunk{of(4096, 4096, "+a")}, false},
		{[]api.Hunk{of(0, 0, full("-", 4096)...)}, true},
		{[]api.Hunk{of(0, 0, full("-", 4097)...)}, false},
		{[]api.Hunk{of(0, 0, full("+", 4096)...)}, true},
		{[]api.Hunk{of(0, 0, full("+", 4097)...)}, false},
		{[]api.Hunk{of(0, 0, append(full("-", 4096), full("+", 4096)...)...)}, true},
		{[]api.Hunk{of(0, 0, append(full(" ", 4095), "-x", "+y")...)}, true},
		{[]api.Hunk{of(0, 0, append(full(" ", 4096), "-x")...)}, false},
		{[]api.Hunk{of(0, 0, "-a"), of(4096, 4095, "+b")}, true},
		{[]api.Hunk{of(0, 0, "-a"), of(4097, 4096, "+b")}, false},
		{[]api.Hunk{of(0, 0, "-a"), of(4096, 4095, "+b", "+c")}, false},
		{[]api.Hunk{of(0, 0, "+a"), of(4095, 4096, "-b")}, true},
		{[]api.Hunk{of(0, 0, "+a"), of(4095, 4096, "-b", "+c")}, false},
		{[]api.Hunk{of(0, 0, "+a", "+b"), of(4095, 4097, "-b")}, false},
	} {
		if got := hunk.Valid(c.l); got != c.want {
			t.Errorf("Valid(%.200v) = %t", c.l, got)
		}
	}
}

// smallLines returns the lines of all kinds and of none, with texts of all sorts.
func smallLines(texts ...string) []api.HunkLine {
	var all []api.HunkLine
	for _, sign := range []string{"?", " ", "-", "+"} {
		for _, text := range texts {
			all = append(all, line(sign+text))
		}
	}
	return all
}

// smallHunks returns the hunks at from and to of at most most lines, each out of some.
func smallHunks(from, to, most int, some []api.HunkLine) []api.Hunk {
	all := []api.Hunk{{From: from, To: to}}
	for start, size := 0, 0; size < most; size++ {
		end := len(all)
		for _, h := range all[start:end] {
			for _, one := range some {
				all = append(all, api.Hunk{From: from, To: to, Lines: append(slices.Clone(h.Lines), one)})
			}
		}
		start = end
	}
	return all
}

// P10.3: all small hunks, and pairs of them, against the definition.
func TestValidPlain(t *testing.T) {
	expect := func(l ...api.Hunk) {
		if got := hunk.Valid(l); got != plainValid(l) {
			t.Fatalf("Valid(%v) = %t", l, got)
		}
	}
	for from := -1; from <= 1; from++ {
		for to := -1; to <= 1; to++ {
			for _, h := range smallHunks(from, to, 3, smallLines("", "a", "a\n", "\n", "a\na\n")) {
				expect(h)
			}
		}
	}
	for _, h := range smallHunks(0, 0, 5, smallLines("a", "a\n")[2:]) {
		expect(h)
	}
	firsts := smallHunks(0, 0, 2, smallLines("a", "a\n"))
	for from := range 5 {
		for to := range 5 {
			for _, second := range smallHunks(from, to, 2, smallLines("a", "a\n")[2:]) {
				for _, first := range firsts {
					expect(first, second)
				}
			}
		}
	}
}

// P10.6: where hunks fit, and what they make of the list.
func TestApply(t *testing.T) {
	change := of(1, 1, " b", "-c", "+x", " d")
	for _, c := range []struct {
		a       string
		l       []api.Hunk
		want    string
		offsets []int
	}{
		{"", nil, "", nil},
		{"abc", nil, "abc", nil},
		{"abcde", []api.Hunk{change}, "abxde", []int{0}},
		{"bcde", []api.Hunk{change}, "bxde", []int{-1}},
		{"bcd", []api.Hunk{change}, "bxd", []int{-1}},
		{"ppabcde", []api.Hunk{change}, "ppabxde", []int{2}},
		{"pppppppbcd", []api.Hunk{change}, "pppppppbxd", []int{6}},
		// The nearest place, or the earlier of two.
		{"bcdbcd", []api.Hunk{change}, "bxdbcd", []int{-1}},
		{"_bcdbcd", []api.Hunk{change}, "_bxdbcd", []int{0}},
		{"__bcdbcd", []api.Hunk{change}, "__bxdbcd", []int{1}},
		{"bcdbcdbcd", []api.Hunk{of(2, 2, "-b")}, "bcdcdbcd", []int{1}},
		{"bbb", []api.Hunk{of(1, 1, "-b", "+x")}, "bxb", []int{0}},
		{"b_b", []api.Hunk{of(1, 1, "-b", "+x")}, "x_b", []int{-1}},
		{"b__b", []api.Hunk{of(2, 2, "-b", "+x")}, "b__x", []int{1}},
		{"b___b", []api.Hunk{of(2, 2, "-b", "+x")}, "x___b", []int{-2}},
		{"b_bb", []api.Hunk{of(1, 1, "-b", "+x")}, "x_bb", []int{-1}},
		{"abababa", []api.Hunk{of(3, 3, "-a", "-b", "-a", "+x")}, "abxba", []int{-1}},
		{"aabaabaa", []api.Hunk{of(0, 0, " a", " b", " a", " a", " b", "+x")}, "aabaabxaa", []int{1}},
		{"aaaab", []api.Hunk{of(0, 0, " a", " a", "-b")}, "aaaa", []int{2}},
		// No line to go by.
		{"", []api.Hunk{of(0, 0, "+x")}, "x", []int{0}},
		{"", []api.Hunk{of(3, 3, "+x")}, "x", []int{-3}},
		{"abc", []api.Hunk{of(2, 2, "+x")}, "abxc", []int{0}},
		{"abc", []api.Hunk{of(3, 3, "+x")}, "abcx", []int{0}},
		{"abc", []api.Hunk{of(9, 9, "+x")}, "abcx", []int{-6}},
		{"abc", []api.Hunk{of(0, 0, "+x"), of(1, 2, "+y"), of(9, 11, "+z")}, "xaybcz", []int{0, 0, -6}},
		// Each goes by the one before it, and not before its end.
		{"pabcde", []api.Hunk{of(0, 0, "-a"), of(2, 1, "+x"), of(4, 4, "-e")}, "pbxcd", []int{1, 1, 1}},
		{"pabcqde", []api.Hunk{of(0, 0, "-a"), of(2, 1, "+x"), of(4, 4, "-e")}, "pbxcqd", []int{1, 1, 2}},
		{"aab", []api.Hunk{of(0, 0, "-a"), of(4, 3, "-a")}, "b", []int{0, -3}},
		{"aba", []api.Hunk{of(0, 0, " a", "-b"), of(3, 2, " a", "+x")}, "aax", []int{0, -1}},
		{"ca__b", []api.Hunk{of(4, 4, "-b"), of(9, 8, "+x")}, "ca__x", []int{0, -4}},
		// Lines without a line feed fit lines without one only, but those inserted may end up anywhere.
		{"ab!", []api.Hunk{bare(1, 1, "-b", "+c\n")}, "ac", []int{0}},
		{"ab!", []api.Hunk{bare(0, 0, "-a\n", " b")}, "b!", []int{0}},
		{"bab!", []api.Hunk{bare(0, 0, "-b", "+c\n")}, "bac", []int{2}},
		{"ab", []api.Hunk{bare(0, 0, " a\n", "+x")}, "ax!b", []int{0}},
	} {
		got, offsets, e := hunk.Apply(letters(c.a), c.l)
		if !slices.Equal(got, letters(c.want)) || !slices.Equal(offsets, c.offsets) || e != api.OK {
			t.Errorf("Apply(%q, %v) = %q, %v, %d, want %q, %v", c.a, c.l, got, offsets, e, c.want, c.offsets)
		}
	}
	// The list may be anything, and as long as can be.
	got, offsets, e := hunk.Apply([]string{"", "a\nb", "c\n"}, []api.Hunk{of(0, 0, "-c", "+d")})
	if !slices.Equal(got, []string{"", "a\nb", "d\n"}) || !slices.Equal(offsets, []int{2}) || e != api.OK {
		t.Errorf("Apply = %q, %v, %d", got, offsets, e)
	}
	got, offsets, e = hunk.Apply(count(0, 9000), []api.Hunk{of(0, 0, "-8999", "+x")})
	if !slices.Equal(got, append(count(0, 8999), "x\n")) || !slices.Equal(offsets, []int{8999}) || e != api.OK {
		t.Errorf("Apply at the end of a long list: %v, %d", offsets, e)
	}
}

// P10.6: invalid hunks, and hunks that fit nowhere.
func TestApplyErrors(t *testing.T) {
	expect := func(a string, wantE api.Errno, want []int, l ...api.Hunk) {
		t.Helper()
		got, offsets, e := hunk.Apply(letters(a), l)
		if len(got) != 0 || !slices.Equal(offsets, want) || e != wantE {
			t.Errorf("Apply(%q, %v) = %q, %v, %d", a, l, got, offsets, e)
		}
	}
	expect("abc", api.ErrSyntax, nil, of(0, 0, " a"))
	expect("abc", api.ErrSyntax, nil, of(1, 0, "-a"))
	expect("abc", api.ErrSyntax, nil, of(0, 0, "-a"), of(2, 1, "?b"))
	// Hunks that fit nowhere don't matter if there are invalid ones.
	expect("abc", api.ErrSyntax, nil, of(0, 0, "-x"), of(2, 2, "-b"))
	expect("", api.ErrHunkMismatch, []int{0}, of(0, 0, "-a"))
	expect("abc", api.ErrHunkMismatch, []int{0}, of(0, 0, "-x"))
	expect("abc", api.ErrHunkMismatch, []int{0}, of(0, 0, " a", " c", "+x"))
	expect("abc", api.ErrHunkMismatch, []int{0}, of(1, 1, " b", "-c", "-d"))
	expect("abc", api.ErrHunkMismatch, []int{0}, of(0, 0, "-a", "-b", "-c", "-d"))
	expect("ab!", api.ErrHunkMismatch, []int{0}, of(1, 1, "-b"))
	expect("ab", api.ErrHunkMismatch, []int{0}, bare(1, 1, "-b"))
	expect("abc", api.ErrHunkMismatch, []int{1}, of(0, 0, "-b"), of(2, 1, "-a"))
	expect("abc", api.ErrHunkMismatch, []int{1}, of(0, 0, "-a"), of(2, 1, "-a"))
	expect("ab_a", api.ErrHunkMismatch, []int{1}, of(2, 2, "-a"), of(4, 3, "-a"))
	expect("abc", api.ErrHunkMismatch, []int{1}, of(0, 0, " a", "-b"), of(3, 2, " b", "-c"))
	expect("abc", api.ErrHunkMismatch, []int{2}, of(0, 0, "-a"), of(2, 1, "-c"), of(4, 2, "-c"))
	expect("abc", api.ErrHunkMismatch, []int{1}, of(0, 0, "-a"), of(2, 1, "-x"), of(4, 2, "-y"))
}

// plainApply follows P10.6: it tries all places.
func plainApply(a []string, l []api.Hunk) ([]string, []int, api.Errno) {
	if !plainValid(l) {
		return nil, nil, api.ErrSyntax
	}
	var out []string
	var offsets []int
	end, offset := 0, 0
	for k, h := range l {
		var old, made []string
		for _, one := range h.Lines {
			if one.Kind != api.LineAdded {
				old = append(old, one.Text)
			}
			if one.Kind != api.LineDeleted {
				made = append(made, one.Text)
			}
		}
		expected, best := h.From+offset, -1
		for at := end; at+len(old) <= len(a); at++ {
			if !slices.Equal(a[at:at+len(old)], old) {
				continue
			}
			if best < 0 || max(at-expected, expected-at) < max(best-expected, expected-best) {
				best = at
			}
		}
		if best < 0 {
			return nil, []int{k}, api.ErrHunkMismatch
		}
		out = slices.Concat(out, a[end:best], made)
		end, offset = best+len(old), best-h.From
		offsets = append(offsets, offset)
	}
	return slices.Concat(out, a[end:]), offsets, api.OK
}

// expectPlain fails unless Apply answers what its definition does.
func expectPlain(t *testing.T, a []string, l []api.Hunk) {
	t.Helper()
	want, wantOffsets, wantE := plainApply(a, l)
	got, offsets, e := hunk.Apply(a, l)
	if !slices.Equal(got, want) || !slices.Equal(offsets, wantOffsets) || e != wantE {
		t.Fatalf("Apply(%q, %v) = %q, %v, %d, want %q, %v, %d", a, l, got, offsets, e, want, wantOffsets, wantE)
	}
}

// P10.6: all small hunks, and hunks on lists that have changed since, against the definition.
func TestApplyPlain(t *testing.T) {
	some := []api.HunkLine{line(" a\n"), line(" b\n"), line("-a\n"), line("-b\n"), line("+x\n")}
	all := lists("ab", 6)
	for from := range 4 {
		for _, h := range smallHunks(from, from, 3, some) {
			for _, a := range all {
				expectPlain(t, a, []api.Hunk{h})
			}
		}
	}
	next := draw(9)
	for seed := range uint64(3000) {
		kinds := 1 + next(6)
		a := noise(next(60), kinds, seed)
		b := slices.Clone(a)
		for range next(8) {
			b = slices.Insert(b, next(len(b)+1), strconv.Itoa(next(kinds))+"\n")
			at := next(len(b))
			b = slices.Delete(b, at, at+next(2))
		}
		l := hunk.Of(a, b, diff.Least(a, b), next(4))
		for range next(4) {
			a = slices.Insert(a, next(len(a)+1), strconv.Itoa(next(kinds+1))+"\n")
			at := next(len(a))
			a = slices.Delete(a, at, at+next(2))
		}
		expectPlain(t, a, l)
		expectPlain(t, noise(next(80), kinds, seed+1), l)
	}
}

// P10.7: sides are exchanged, with the deleted lines first in each run.
func TestInvert(t *testing.T) {
	for _, c := range []struct{ l, want []api.Hunk }{
		{nil, nil},
		{[]api.Hunk{of(0, 0, "-a")}, []api.Hunk{of(0, 0, "+a")}},
		{[]api.Hunk{of(0, 0, "+a")}, []api.Hunk{of(0, 0, "-a")}},
		{[]api.Hunk{of(0, 0, " a", "-b", "+x", " c")}, []api.Hunk{of(0, 0, " a", "-x", "+b", " c")}},
		{[]api.Hunk{of(3, 3, "-a", "-b", "+x", "+y", " c", "-d", " e", " f", "+z")}, []api.Hunk{of(3, 3, "-x", "-y", "+a", "+b", " c", "+d", " e", " f", "-z")}},
		{[]api.Hunk{of(1, 1, "-a", "-b", "+x"), of(4, 3, "+y", "+z"), of(5, 6, "-c")}, []api.Hunk{of(1, 1, "-x", "+a", "+b"), of(3, 4, "-y", "-z"), of(6, 5, "+c")}},
		{[]api.Hunk{bare(0, 0, "-a", "+a\n")}, []api.Hunk{bare(0, 0, "-a\n", "+a")}},
		{[]api.Hunk{bare(0, 0, "+a\n", " b")}, []api.Hunk{bare(0, 0, "-a\n", " b")}},
		{[]api.Hunk{of(0, 0, " a")}, nil},
		{[]api.Hunk{of(0, 0, "+a", "-b")}, nil},
		{[]api.Hunk{of(0, 0, "-a"), of(1, 0, "-b")}, nil},
	} {
		if got := hunk.Invert(c.l); !same(got, c.want) {
			t.Errorf("Invert(%v) = %v, want %v", c.l, got, c.want)
		}
	}
}

// P10.8 and P10.9: hunks hold the edits of their script, lead from one list to the other and back, and come back from their text.
func TestInPlace(t *testing.T) {
	cases(func(a, b []string, l []api.Edit, around int) {
		hunks := hunk.Of(a, b, l, around)
		if !hunk.Valid(hunks) || !slices.Equal(hunk.Edits(hunks), l) {
			t.Fatalf("the edits of %v are %v, not %v", hunks, hunk.Edits(hunks), l)
		}
		expect := func(a, b []string, hunks []api.Hunk) {
			got, offsets, e := hunk.Apply(a, hunks)
			if !slices.Equal(got, b) || !slices.Equal(offsets, make([]int, len(hunks))) || e != api.OK {
				t.Fatalf("Apply(%q, %v) = %q, %v, %d", a, hunks, got, offsets, e)
			}
		}
		expect(a, b, hunks)
		back := hunk.Invert(hunks)
		expect(b, a, back)
		if !hunk.Valid(back) || !same(hunk.Invert(back), hunks) || !slices.Equal(hunk.Edits(back), diff.Invert(l)) {
			t.Fatalf("%v is no inverse of %v", back, hunks)
		}
		if got, n, e := hunk.Parse(hunk.Text(hunks)); !same(got, hunks) || n != 0 || e != api.OK {
			t.Fatalf("%v comes back as %v, %d, %d", hunks, got, n, e)
		}
	})
}

// P10.8: the longest lists, too.
func TestInPlaceLongest(t *testing.T) {
	a, b := noise(api.MaxLines, 50, 1), noise(api.MaxLines, 50, 2)
	l := diff.Least(a, b)
	for _, around := range []int{0, 1, 64} {
		hunks := hunk.Of(a, b, l, around)
		got, offsets, e := hunk.Apply(a, hunks)
		if !slices.Equal(got, b) || !slices.Equal(offsets, make([]int, len(hunks))) || e != api.OK || !slices.Equal(hunk.Edits(hunks), l) {
			t.Errorf("%d hunks with %d lines around: %d", len(hunks), around, e)
		}
		if back, n, e := hunk.Parse(hunk.Text(hunks)); !same(back, hunks) || n != 0 || e != api.OK {
			t.Errorf("%d hunks with %d lines around don't come back: %d, %d", len(hunks), around, n, e)
		}
	}
}

// P10.10: lines before the list move all hunks alike.
func TestMoved(t *testing.T) {
	next := draw(4)
	for range 300 {
		a := count(0, 1+next(80))
		b := slices.Clone(a)
		for range 1 + next(9) {
			b = slices.Insert(b, next(len(b)+1), strconv.Itoa(1000+next(3))+"\n")
			at := next(len(b))
			b = slices.Delete(b, at, at+next(2))
		}
		hunks := hunk.Of(a, b, diff.Least(a, b), 1+next(4))
		more := times(next(200), "more\n")
		got, offsets, e := hunk.Apply(slices.Concat(more, a), hunks)
		want := make([]int, len(hunks))
		for k := range want {
			want[k] = len(more)
		}
		if !slices.Equal(got, slices.Concat(more, b)) || !slices.Equal(offsets, want) || e != api.OK {
			t.Fatalf("Apply of %v to %q behind %d lines = %q, %v, %d", hunks, a, len(more), got, offsets, e)
		}
	}
}

// R1: hunks that nearly fit everywhere, or lie far from where they fit, are applied in good time.
func TestApplyHardest(t *testing.T) {
	for _, line := range []string{"\n", strings.Repeat("x", 1000) + "\n"} {
		a := times(1000000, line)
		h := api.Hunk{Lines: []api.HunkLine{{Kind: api.LineDeleted, Text: "y\n"}}}
		for range 4000 {
			h.Lines = slices.Insert(h.Lines, 0, api.HunkLine{Kind: api.LineContext, Text: line})
		}
		if _, offsets, e := hunk.Apply(a, []api.Hunk{h}); !slices.Equal(offsets, []int{0}) || e != api.ErrHunkMismatch {
			t.Errorf("Apply of what fits nowhere: %v, %d", offsets, e)
		}
		a[len(a)-1] = "y\n"
		if _, offsets, e := hunk.Apply(a, []api.Hunk{h}); !slices.Equal(offsets, []int{1000000 - 4001}) || e != api.OK {
			t.Errorf("Apply of what fits at the end: %v, %d", offsets, e)
		}
	}
	var l []api.Hunk
	for k := range 2048 {
		l = append(l, of(2*k, k, "-"+strconv.Itoa(k)))
	}
	a := append(count(0, 2048), times(1000000, "x\n")...)
	got, offsets, e := hunk.Apply(a, l)
	if len(got) != 1000000 || len(offsets) != 2048 || offsets[2047] != -2047 || e != api.OK {
		t.Errorf("Apply of hunks that move closer and closer: %d lines, %d", len(got), e)
	}
}

// clone returns hunks that share no memory with l, with spare capacity.
func clone(l []api.Hunk) []api.Hunk {
	out := append(slices.Clone(l), api.Hunk{From: 7}, api.Hunk{To: 7})
	for k := range out {
		out[k].Lines = append(slices.Clone(out[k].Lines), line(" spare"))[:len(out[k].Lines)]
	}
	return out
}

// R3: no call changes its arguments, nor the capacity behind them, and no answer shares memory with them.
func TestMemory(t *testing.T) {
	a, b := letters("abcdefgh?"), letters("xbcdefyh?")
	script := append(diff.Least(a, b), edit(9, 9, 9, 9))
	l := hunk.Of(a[:8], b[:8], script[:2], 1)
	kept := clone(l)
	use := clone(l)[:len(l)]
	spoil := func(hunks []api.Hunk) {
		for _, h := range hunks {
			for i := range h.Lines {
				h.Lines[i].Text = "spoilt"
			}
		}
	}
	hunk.Edits(use)
	hunk.Valid(use)
	text := hunk.Text(use)
	spoil(hunk.Invert(use))
	got, _, _ := hunk.Apply(a[:8], use)
	for i := range got {
		got[i] = "spoilt"
	}
	got, _, _ = hunk.Apply(a[:8], nil)
	got[0] = "spoilt"
	spoil(hunk.Of(a[:8], b[:8], script[:2], 1))
	back, _, _ := hunk.Parse(text)
	if !same(back, l) || !same(use[:len(kept)], kept) || len(l) != 2 {
		t.Errorf("the hunks are changed: %v", use)
	}
	if lines.Join(a) != "a\nb\nc\nd\ne\nf\ng\nh\n?\n" || lines.Join(b) != "x\nb\nc\nd\ne\nf\ny\nh\n?\n" || script[2] != edit(9, 9, 9, 9) {
		t.Errorf("the lists are changed: %q, %q, %v", a, b, script)
	}
}
