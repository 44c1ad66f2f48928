package simil_test

import (
	"math"
	"slices"
	"strconv"
	"strings"
	"testing"
	"time"

	"graftage/simil"
)

// draw returns numbers below n that depend on seed alone.
func draw(seed uint64) func(n int) int {
	return func(n int) int {
		seed = seed*6364136223846793005 + 1442695040888963407
		return int((seed >> 33) % uint64(n))
	}
}

// strung returns all strings of at most most bytes out of some.
func strung(some string, most int) []string {
	all := []string{""}
	for start, size := 0, 0; size < most; size++ {
		end := len(all)
		for _, s := range all[start:end] {
			for _, b := range []byte(some) {
				all = append(all, s+string([]byte{b}))
			}
		}
		start = end
	}
	return all
}

// noise returns a text of n lines out of kinds ones of unlike lengths, at times without its last line feed.
func noise(n, kinds int, next func(int) int) string {
	var out strings.Builder
	for range n {
		k := next(kinds)
		out.WriteString(strings.Repeat("-", k%5) + strconv.Itoa(k) + "\n")
	}
	text := out.String()
	if n > 0 && next(3) == 0 {
		text = text[:len(text)-1]
	}
	return text
}

// sorted returns the lines of a text, in the order of their bytes.
func sorted(s string) []string {
	var l []string
	for s != "" {
		end := strings.IndexByte(s, '\n') + 1
		if end == 0 {
			end = len(s)
		}
		l = append(l, s[:end])
		s = s[end:]
	}
	slices.Sort(l)
	return l
}

// plainCommon walks through the sorted lines of both texts.
func plainCommon(a, b string) int {
	x, y := sorted(a), sorted(b)
	size := 0
	for len(x) > 0 && len(y) > 0 {
		switch {
		case x[0] < y[0]:
			x = x[1:]
		case x[0] > y[0]:
			y = y[1:]
		default:
			size += len(x[0])
			x, y = x[1:], y[1:]
		}
	}
	return size
}

// plainScore counts up to the greatest score whose share of the longer string isn't above the common size.
func plainScore(a, b string) int {
	if a == "" && b == "" {
		return 100
	}
	if a == "" || b == "" {
		return 0
	}
	longer := max(len(a), len(b))
	score := 0
	for (score+1)*longer <= 100*plainCommon(a, b) {
		score++
	}
	return score
}

// expect fails unless a pair has just this common size and score.
func expect(t *testing.T, a, b string, common, score int) {
	t.Helper()
	if got := simil.Common(a, b); got != common {
		t.Errorf("Common(%.80q, %.80q) = %d, want %d", a, b, got, common)
	}
	if got := simil.Score(a, b); got != score {
		t.Errorf("Score(%.80q, %.80q) = %d, want %d", a, b, got, score)
	}
	for _, least := range []int{math.MinInt, -1, 0, 1, score - 1, score, score + 1, 100, 101, math.MaxInt} {
		if got := simil.AtLeast(a, b, least); got != (score >= least) {
			t.Errorf("AtLeast(%.80q, %.80q, %d) = %t, but the score is %d", a, b, least, got, score)
		}
	}
}

// P11.1, P11.2: the examples, multiplicities, lengths, and rounding down.
func TestExamples(t *testing.T) {
	for _, c := range []struct {
		a, b          string
		common, score int
	}{
		{"a\nb\n", "b\nc\n", 2, 50},
		{"ab", "abc", 0, 0},
		{"", "", 0, 100},
		{"", "a\n", 0, 0},
		{"\n", "", 0, 0},
		{"\n", "\n", 1, 100},
		{"\n\n\n", "\n\n", 2, 66},
		{"a\na\nb\n", "a\nb\nb\n", 4, 66},
		{"long line\nx\n", "long line\ny\n", 10, 83},
		{"a\nb", "a\nb\n", 2, 50},
		{"a", "a\n", 0, 0},
		{"b\na", "a\nb", 0, 0},
		{"a\r\n", "a\n", 0, 0},
		{"\x00\xff\n\x80", "\x80", 1, 25},
		{strings.Repeat("a\n", 99) + "b\n", strings.Repeat("a\n", 100), 198, 99},
		{strings.Repeat("a\n", 999) + "b\n", strings.Repeat("a\n", 1000), 1998, 99},
	} {
		expect(t, c.a, c.b, c.common, c.score)
		expect(t, c.b, c.a, c.common, c.score)
	}
}

// P11.1, P11.2, P11.4: all pairs of short strings, against a plain reference.
func TestShort(t *testing.T) {
	all := strung("ab\n", 4)
	for _, a := range all {
		for _, b := range all {
			expect(t, a, b, plainCommon(a, b), plainScore(a, b))
		}
	}
}

// P11.1, P11.2, P11.4: longer strings, against a plain reference.
func TestLong(t *testing.T) {
	next := draw(1)
	for range 300 {
		kinds := 1 + next(30)
		a, b := noise(next(60), kinds, next), noise(next(60), kinds, next)
		expect(t, a, b, plainCommon(a, b), plainScore(a, b))
	}
}

// P11.3: the first of the highest scores, and the empty list.
func TestBest(t *testing.T) {
	for _, c := range []struct {
		a     string
		l     []string
		index int
		score int
	}{
		{"a\n", nil, -1, 0},
		{"a\n", []string{}, -1, 0},
		{"", nil, -1, 0},
		{"a\n", []string{"b\n"}, 0, 0},
		{"a\n", []string{"b\n", "", "c\n"}, 0, 0},
		{"a\n", []string{"b\n", "a\n", "a\n"}, 1, 100},
		{"a\nb\n", []string{"", "b\nc\n", "a\nc\n", "c\n"}, 1, 50},
		{"a\nb\n", []string{"b\nc\n", "b\na\n", "a\nb\n"}, 1, 100},
		{"", []string{"a\n", "\n", ""}, 2, 100},
		{"a\na\n", []string{"a\n", "a\na\na\n", "a\na\n"}, 2, 100},
		{"a\na\n", []string{"a\n", "a\na\na\n"}, 1, 66},
	} {
		if index, score := simil.Best(c.a, c.l); index != c.index || score != c.score {
			t.Errorf("Best(%q, %q) = %d, %d, want %d, %d", c.a, c.l, index, score, c.index, c.score)
		}
	}
}

// P11.3: longer lists, against the scores one by one; nothing is kept from one element to the next.
func TestBestAmongMany(t *testing.T) {
	next := draw(2)
	for range 200 {
		kinds := 1 + next(8)
		a := noise(next(12), kinds, next)
		index, best := -1, -1
		var l []string
		for i := range 1 + next(20) {
			l = append(l, noise(next(12), kinds, next))
			if n := plainScore(a, l[i]); n > best {
				index, best = i, n
			}
		}
		whole := append(slices.Clone(l), "?", "?")
		before := slices.Clone(whole)
		if i, n := simil.Best(a, whole[:len(l)]); i != index || n != best {
			t.Errorf("Best(%q, %q) = %d, %d, want %d, %d", a, l, i, n, index, best)
		}
		if !slices.Equal(whole, before) {
			t.Errorf("Best changes the list of %d elements that it is given", len(l))
		}
	}
}

// P11.5: symmetry, a string and itself, and when the score is 100.
func TestSymmetry(t *testing.T) {
	all := strung("a\n", 6)
	for _, a := range all {
		if simil.Common(a, a) != len(a) || simil.Score(a, a) != 100 {
			t.Errorf("%q isn't all like itself", a)
		}
		for _, b := range all {
			score := simil.Score(a, b)
			if simil.Common(a, b) != simil.Common(b, a) || score != simil.Score(b, a) {
				t.Errorf("%q and %q aren't symmetric", a, b)
			}
			if score < 0 || score > 100 || (score == 100) != slices.Equal(sorted(a), sorted(b)) {
				t.Errorf("Score(%q, %q) = %d", a, b, score)
			}
		}
	}
}

// P11.6: a line less makes nothing more common, and no more is common than the shorter string has.
func TestMonotonicity(t *testing.T) {
	next := draw(3)
	for range 200 {
		kinds := 1 + next(10)
		a, b := noise(1+next(20), kinds, next), noise(next(20), kinds, next)
		common := simil.Common(a, b)
		if common > min(len(a), len(b)) {
			t.Errorf("Common(%q, %q) = %d", a, b, common)
		}
		l := strings.SplitAfter(a, "\n")
		i := next(len(l))
		less := strings.Join(l[:i], "") + strings.Join(l[i+1:], "")
		if n := simil.Common(less, b); n > common || n < common-len(l[i]) {
			t.Errorf("Common(%q, %q) = %d, but %d with %q", less, b, n, common, l[i])
		}
	}
}

// P11.7: the order of the lines doesn't matter.
func TestOrder(t *testing.T) {
	next := draw(4)
	for range 200 {
		kinds := 1 + next(10)
		a, b := noise(next(20), kinds, next), noise(next(20), kinds, next)
		if !strings.HasSuffix(a, "\n") {
			continue
		}
		l := strings.SplitAfter(a, "\n")
		for i := range l {
			k := next(i + 1)
			l[i], l[k] = l[k], l[i]
		}
		other := strings.Join(l, "")
		if simil.Common(a, b) != simil.Common(other, b) || simil.Score(b, a) != simil.Score(b, other) {
			t.Errorf("%q and %q compare to %q in unlike ways", a, other, b)
		}
	}
}

// R1: long texts in good time, among them one line without an end and lines without number.
func TestMuch(t *testing.T) {
	start := time.Now()
	size := 1 << 20
	expect(t, strings.Repeat("\n", size), strings.Repeat("\n", size/2), size/2, 50)
	expect(t, strings.Repeat("a", size), strings.Repeat("a", size-1), 0, 0)
	text := noise(20000, 1<<30, draw(5)) + "\n"
	expect(t, text, text+"?", len(text), 99)
	if d := time.Since(start); d > 20*time.Second {
		t.Errorf("it took %s", d)
	}
}
