package hunk_test

import (
	"regexp"
	"slices"
	"strconv"
	"strings"
	"testing"

	"graftage/api"
	"graftage/hunk"
)

// plainText follows the definition of the text form.
func plainText(l []api.Hunk) string {
	text := ""
	for _, h := range l {
		old, made, body := 0, 0, ""
		for _, one := range h.Lines {
			if one.Kind != api.LineAdded {
				old++
			}
			if one.Kind != api.LineDeleted {
				made++
			}
			body += []string{"", " ", "-", "+"}[one.Kind] + one.Text
			if !strings.HasSuffix(one.Text, "\n") {
				body += "\n\\ no end\n"
			}
		}
		from, to := h.From, h.To
		if old > 0 {
			from++
		}
		if made > 0 {
			to++
		}
		text += "@ -" + strconv.Itoa(from) + "," + strconv.Itoa(old) + " +" + strconv.Itoa(to) + "," + strconv.Itoa(made) + " @\n" + body
	}
	return text
}

// P10.4: the example, headers of lists without lines, and lines without a line feed.
func TestText(t *testing.T) {
	for _, c := range []struct {
		l    []api.Hunk
		want string
	}{
		{nil, ""},
		{[]api.Hunk{of(0, 0, " a", "-b", "+x", " c")}, "@ -1,3 +1,3 @\n a\n-b\n+x\n c\n"},
		{[]api.Hunk{of(0, 0, "+a", "+b")}, "@ -0,0 +1,2 @\n+a\n+b\n"},
		{[]api.Hunk{of(0, 0, "-a")}, "@ -1,1 +0,0 @\n-a\n"},
		{[]api.Hunk{of(7, 7, "+a")}, "@ -7,0 +8,1 @\n+a\n"},
		{[]api.Hunk{of(7, 7, "-a", "-b")}, "@ -8,2 +7,0 @\n-a\n-b\n"},
		{[]api.Hunk{of(0, 0, "-", "+-", " \\ no end", " @ -1,1 +1,1 @")}, "@ -1,3 +1,3 @\n-\n+-\n \\ no end\n @ -1,1 +1,1 @\n"},
		{[]api.Hunk{of(1, 1, "-a", "+b", "+c"), of(3, 4, "-d"), of(99, 99, "+e")}, "@ -2,1 +2,2 @\n-a\n+b\n+c\n@ -4,1 +4,0 @\n-d\n@ -99,0 +100,1 @\n+e\n"},
		{[]api.Hunk{bare(0, 0, "-a", "+a\n")}, "@ -1,1 +1,1 @\n-a\n\\ no end\n+a\n"},
		{[]api.Hunk{bare(0, 0, "-a\n", "+a")}, "@ -1,1 +1,1 @\n-a\n+a\n\\ no end\n"},
		{[]api.Hunk{bare(0, 0, "-a", "+b")}, "@ -1,1 +1,1 @\n-a\n\\ no end\n+b\n\\ no end\n"},
		{[]api.Hunk{bare(0, 0, "-a\n", " b")}, "@ -1,2 +1,1 @\n-a\n b\n\\ no end\n"},
		{[]api.Hunk{bare(0, 0, "-a\r\n", "+\x00\xff\n")}, "@ -1,1 +1,1 @\n-a\r\n+\x00\xff\n"},
		{[]api.Hunk{of(0, 0, " a")}, ""},
		{[]api.Hunk{of(1, 0, "-a")}, ""},
		{[]api.Hunk{of(0, 0, "-a"), of(1, 0, "-b")}, ""},
		{[]api.Hunk{bare(0, 0, "-")}, ""},
	} {
		if got := hunk.Text(c.l); got != c.want {
			t.Errorf("Text(%v) = %q, want %q", c.l, got, c.want)
		}
	}
}

// P10.4 and P10.9: the text of all small hunks is what the definition says, and comes back.
func TestTextPlain(t *testing.T) {
	for from := range 2 {
		for _, h := range smallHunks(from, from, 4, smallLines("x", "\n", "x\n")) {
			l := []api.Hunk{h}
			want := ""
			if plainValid(l) {
				want = plainText(l)
			}
			got := hunk.Text(l)
			if got != want {
				t.Fatalf("Text(%v) = %q, want %q", l, got, want)
			}
			if back, n, e := hunk.Parse(got); want != "" && !same(back, l) || n != 0 || e != api.OK {
				t.Fatalf("Parse(%q) = %v, %d, %d", got, back, n, e)
			}
		}
	}
}

// P10.5: texts that are whole, at the edges.
func TestParse(t *testing.T) {
	for _, c := range []struct {
		s    string
		want []api.Hunk
	}{
		{"", nil},
		{"@ -1,3 +1,3 @\n a\n-b\n+x\n c\n", []api.Hunk{of(0, 0, " a", "-b", "+x", " c")}},
		{"@ -0,0 +1,1 @\n+a\n", []api.Hunk{of(0, 0, "+a")}},
		{"@ -1,1 +0,0 @\n-a\n", []api.Hunk{of(0, 0, "-a")}},
		{"@ -7,0 +8,1 @\n+\n", []api.Hunk{of(7, 7, "+")}},
		{"@ -1,1 +1,1 @\n-a\n\\ no end\n+a\n", []api.Hunk{bare(0, 0, "-a", "+a\n")}},
		{"@ -1,1 +1,1 @\n-a\n\\ no end\n+b\n\\ no end\n", []api.Hunk{bare(0, 0, "-a", "+b")}},
		{"@ -1,2 +1,1 @\n-a\n \x00\n\\ no end\n", []api.Hunk{bare(0, 0, "-a\n", " \x00")}},
		{"@ -1,1 +0,0 @\n-\\ no end\n\\ no end\n", []api.Hunk{bare(0, 0, "-\\ no end")}},
		{"@ -4096,1 +4096,1 @\n-a\n+b\n", []api.Hunk{of(4095, 4095, "-a", "+b")}},
		{"@ -1,1 +0,0 @\n-a\n@ -4096,0 +4096,1 @\n+b\n", []api.Hunk{of(0, 0, "-a"), of(4096, 4095, "+b")}},
		{"@ -1,4096 +0,0 @\n" + strings.Repeat("-a\n", 4096), []api.Hunk{of(0, 0, times(4096, "-a")...)}},
		{"@ -1,2 +1,2 @\n+a\n b\n-c\n", []api.Hunk{of(0, 0, "+a", " b", "-c")}},
		{"@ -1,1 +1,2 @\n-a\n+b\n+c\n@ -3,1 +3,0 @\n-d\n", []api.Hunk{of(0, 0, "-a", "+b", "+c"), of(2, 3, "-d")}},
		{"@ -1,1 +1,1 @\n-a\r\n+@ -3,1 +3,1 @\n", []api.Hunk{of(0, 0, "-a\r", "+@ -3,1 +3,1 @")}},
	} {
		if got, n, e := hunk.Parse(c.s); !same(got, c.want) || n != 0 || e != api.OK {
			t.Errorf("Parse(%.80q) = %v, %d, %d, want %v", c.s, got, n, e, c.want)
		}
	}
}

// expectBad fails unless Parse answers that line n is at fault.
func expectBad(t *testing.T, s string, want int) {
	t.Helper()
	if got, n, e := hunk.Parse(s); len(got) != 0 || n != want || e != api.ErrSyntax {
		t.Errorf("Parse(%.80q) = %v, %d, %d, want line %d", s, got, n, e, want)
	}
}

// P10.5: lines that no header is.
func TestParseHeader(t *testing.T) {
	for _, header := range []string{
		"", " ", "@", "@ ", "x", "+a", "-a", " a", "\\no end",
		"@@ -1,1 +1,1 @@", "@ -1 +1 @", "@ -1,1 @", "@ -1,1 +1,1", "@ -1,1 +1,1 ", "@ -1,1 +1,1@", "@ -1,1 +1,1 @ ", "@ -1,1 +1,1 @x", "@ -1,1 +1,1 @\r", "@ -1,1 +1,1  @",
		"@-1,1 +1,1 @", "@  -1,1 +1,1 @", " @ -1,1 +1,1 @", "@ 1,1 +1,1 @", "@ -1,1 1,1 @", "@ -1,1  +1,1 @", "@ -1,1+1,1 @", "@ +1,1 -1,1 @", "@ -1,1 -1,1 @", "@ +1,1 +1,1 @", "@ -1;1 +1,1 @", "@ -1, 1 +1,1 @", "@ -1,,1 +1,1 @",
		"@ -01,1 +1,1 @", "@ -1,01 +1,1 @", "@ -1,1 +01,1 @", "@ -1,1 +1,01 @", "@ -00,0 +1,1 @", "@ -0,00 +1,1 @", "@ -1,1 +00,0 @", "@ -1,1 +0,00 @",
		"@ --1,1 +1,1 @", "@ -+1,1 +1,1 @", "@ -1,1 +-1,1 @", "@ -1,-1 +1,1 @", "@ -1,1 +1,-1 @", "@ -1,+1 +1,1 @", "@ -1,1 ++1,1 @", "@ -1,1 +1,+1 @",
		"@ -,1 +1,1 @", "@ -1, +1,1 @", "@ -1,1 +,1 @", "@ -1,1 +1, @", "@ -a,1 +1,1 @", "@ -1,0x1 +1,1 @", "@ -1_0,1 +1_0,1 @", "@ -1.0,1 +1,1 @", "@ -\uff11,1 +1,1 @", "@ -1/,1 +1,1 @", "@ -1:,1 +1,1 @", "@ -/,1 +/,1 @", "@ -:,1 +:,1 @",
		// Lists that don't start where the header says, and hunks without a line.
		"@ -0,1 +0,1 @", "@ -0,1 +1,1 @", "@ -1,1 +0,1 @", "@ -0,0 +0,0 @", "@ -1,0 +1,0 @", "@ -1,1 +2,1 @", "@ -2,1 +1,1 @", "@ -1,0 +1,1 @", "@ -0,0 +2,1 @", "@ -1,1 +1,0 @", "@ -2,1 +0,0 @",
		// Too many lines.
		"@ -4097,1 +4097,1 @", "@ -4096,2 +4096,1 @", "@ -4096,1 +4096,2 @", "@ -4096,0 +4097,1 @", "@ -4097,1 +4096,0 @", "@ -1,4097 +1,1 @", "@ -1,1 +1,4097 @", "@ -1,4097 +0,0 @", "@ -0,0 +1,4097 @",
		"@ -9223372036854775807,1 +9223372036854775807,1 @", "@ -1,9223372036854775807 +1,1 @", "@ -1,1 +1,9223372036854775807 @", "@ -18446744073709551617,1 +1,1 @", "@ -1,18446744073709551617 +1,1 @", "@ -1,1 +18446744073709551617,1 @", "@ -1,1 +1,18446744073709551617 @", "@ -99999999999999999999999,1 +99999999999999999999999,1 @",
	} {
		expectBad(t, header+"\n-a\n+b\n", 0)
		expectBad(t, "@ -1,1 +1,1 @\n-a\n+b\n"+header+"\n-a\n+b\n", 3)
	}
	for _, header := range []string{"@ -1,1 +1,1 @", "@ -2,1 +2,1 @", "@ -3,1 +4,1 @", "@ -3,1 +2,1 @", "@ -3,0 +3,1 @", "@ -3,1 +3,0 @", "@ -1,0 +2,1 @"} {
		expectBad(t, "@ -1,2 +1,2 @\n-a\n+b\n x\n"+header+"\n-a\n+b\n", 4)
	}
	for _, header := range []string{"@ -3,1 +3,1 @", "@ -3,1 +5,1 @", "@ -3,1 +4,0 @", "@ -3,0 +4,1 @", "@ -4096,1 +4097,1 @", "@ -4095,1 +4096,2 @"} {
		expectBad(t, "@ -1,1 +1,2 @\n-a\n+b\n+c\n"+header+"\n-a\n+b\n", 4)
	}
}

// P10.5: the first line at fault, and what is missing at the end.
func TestParseBad(t *testing.T) {
	for _, c := range []struct {
		s    string
		want int
	}{
		// Nothing but the last line can lack its line feed.
		{"x", 0},
		{"@ -1,1 +1,1 @", 0},
		{"@ -1,1 +1,1 @\n-a", 1},
		{"@ -1,1 +1,1 @\n-a\n+b", 2},
		{"@ -1,1 +1,1 @\n-a\n+b\n\\ no end", 3},
		{"@ -1,1 +1,1 @\n+a\n-b", 1},
		// Lines are missing.
		{"@ -1,1 +1,1 @\n", 1},
		{"@ -1,1 +1,1 @\n-a\n", 2},
		{"@ -1,1 +1,1 @\n-a\n\\ no end\n", 3},
		{"@ -1,2 +1,2 @\n a\n", 2},
		{"@ -1,2 +1,2 @\n+a\n", 2},
		{"@ -1,1 +1,1 @\n-a\n+b\n@ -3,1 +2,0 @\n", 4},
		{"@ -1,1 +1,1 @\n-a\n+b\n@ -3,1 +3,1 @\n", 4},
		{"@ -1,1 +1,1 @\n-a\n@ -3,1 +3,1 @\n-a\n+b\n", 2},
		// Lines that a hunk can't have.
		{"@ -1,1 +1,1 @\na\n", 1},
		{"@ -1,1 +1,1 @\n\n", 1},
		{"@ -1,1 +1,1 @\n\ta\n", 1},
		{"@ -1,1 +1,1 @\n@ -1,1 +1,1 @\n", 1},
		{"@ -1,1 +1,1 @\n a\n-a\n+b\n", 1},
		{"@ -1,1 +1,1 @\n-a\n a\n", 2},
		{"@ -1,1 +1,1 @\n-a\n-b\n", 2},
		{"@ -1,1 +1,1 @\n-a\n+b\n+c\n", 3},
		{"@ -1,1 +1,1 @\n-a\n+b\n c\n", 3},
		{"@ -1,1 +1,1 @\n-a\n+b\n-c\n", 3},
		{"@ -1,1 +0,0 @\n+a\n", 1},
		{"@ -0,0 +1,1 @\n-a\n", 1},
		{"@ -1,2 +1,2 @\n a\n b\n", 2},
		{"@ -1,2 +1,2 @\n a\n+b\n-c\n", 2},
		// No deleted line may follow an inserted one, so an unchanged one must be able to.
		{"@ -1,1 +1,1 @\n+a\n-b\n", 1},
		{"@ -1,2 +1,1 @\n-a\n+b\n-c\n", 2},
		{"@ -1,2 +1,2 @\n+a\n-b\n", 2},
		{"@ -1,2 +1,2 @\n+a\n+b\n-c\n", 2},
		{"@ -1,1 +1,3 @\n+a\n+b\n+c\n-d\n", 3},
		{"@ -1,1 +1,3 @\n+a\n+b\n-d\n", 3},
		// Lines without a line feed.
		{"@ -1,1 +0,0 @\n\\ no end\n", 1},
		{"@ -1,1 +0,0 @\n-\n\\ no end\n", 2},
		{"@ -1,1 +0,0 @\n-a\n\\ no end\n\\ no end\n", 3},
		{"@ -1,1 +0,0 @\n-abc\n\\ no end\n\\ no end\n", 3},
		{"@ -1,2 +1,1 @\n-a\n bcd\n\\ no end\n\\ no end\n", 4},
		{"@ -1,1 +1,1 @\n-abc\n\\ no end\n\\ no end\n+d\n", 3},
		{"@ -1,1 +0,0 @\n-a\n\\ no end \n", 2},
		{"@ -1,1 +0,0 @\n-a\n\\ No end\n", 2},
		{"@ -1,1 +0,0 @\n-a\n\\\n", 2},
		{"@ -2,1 +1,0 @\n-a\n\\ no end\n@ -4,1 +2,0 @\n-b\n", 3},
		{"@ -1,2 +0,0 @\n-a\n\\ no end\n-b\n", 2},
		{"@ -0,0 +1,2 @\n+a\n\\ no end\n+b\n", 2},
		{"@ -1,2 +1,1 @\n a\n\\ no end\n-b\n", 2},
		{"@ -1,1 +1,2 @\n a\n\\ no end\n+b\n", 2},
		{"@ -1,2 +1,1 @\n-a\n\\ no end\n b\n", 2},
		{"@ -1,1 +1,2 @\n+a\n\\ no end\n b\n", 2},
		{"@ -1,1 +1,1 @\n-a\n\\ no end\n-b\n", 3},
		{"@ -1,1 +1,1 @\n-a\n\\ no end\n b\n", 3},
		{"@ -1,1 +1,1 @\n-a\n\\ no end\n+b\n\\ no end\n\\ no end\n", 5},
		{"@ -1,1 +1,1 @\n-a\n\\ no end\n+b\n@ -3,1 +3,1 @\n", 4},
	} {
		expectBad(t, c.s, c.want)
	}
}

var headerForm = regexp.MustCompile(`^@ -([0-9]{1,9}),([0-9]{1,9}) \+([0-9]{1,9}),([0-9]{1,9}) @\n$`)

// plainParse returns the valid list of hunks whose text is s, and whether there is one: it reads s roughly and holds it against the text of what it has read.
func plainParse(s string) ([]api.Hunk, bool) {
	var l []api.Hunk
	for _, text := range strings.SplitAfter(s, "\n") {
		if text == "" {
			continue
		}
		if found := headerForm.FindStringSubmatch(text); found != nil {
			var n [4]int
			for k := range n {
				n[k], _ = strconv.Atoi(found[k+1])
			}
			l = append(l, api.Hunk{From: n[0] - min(n[1], 1), To: n[2] - min(n[3], 1)})
			continue
		}
		if len(l) == 0 {
			return nil, false
		}
		h := &l[len(l)-1]
		if text == "\\ no end\n" && len(h.Lines) > 0 {
			last := &h.Lines[len(h.Lines)-1]
			last.Text = strings.TrimSuffix(last.Text, "\n")
			continue
		}
		h.Lines = append(h.Lines, line(text))
	}
	return l, plainValid(l) && plainText(l) == s
}

// plainViable reports whether a text starts with s: it tries what can follow, up to most lines.
func plainViable(s string, most int) bool {
	if _, ok := plainParse(s); ok {
		return true
	}
	if most == 0 {
		return false
	}
	for _, next := range []string{"-x\n", " x\n", "+x\n"} {
		if plainViable(s+next, most-1) {
			return true
		}
	}
	return false
}

// expectParse fails unless Parse answers what P10.5 says; no hunk of s has more than most lines.
func expectParse(t *testing.T, s string, most int) bool {
	t.Helper()
	want, ok := plainParse(s)
	wantN, wantE := 0, api.OK
	if !ok {
		want, wantE = nil, api.ErrSyntax
		all := strings.SplitAfter(s, "\n")
		if all[len(all)-1] == "" {
			all = all[:len(all)-1]
		}
		for wantN < len(all) && strings.HasSuffix(all[wantN], "\n") && plainViable(strings.Join(all[:wantN+1], ""), most) {
			wantN++
		}
	}
	got, n, e := hunk.Parse(s)
	if !same(got, want) || n != wantN || e != wantE {
		t.Fatalf("Parse(%q) = %v, %d, %d, want %v, %d, %d", s, got, n, e, want, wantN, wantE)
	}
	return wantE == api.OK || wantN == strings.Count(s, "\n")
}

// P10.5: all texts of a few lines, against the definition.
func TestParsePlain(t *testing.T) {
	some := []string{" x\n", "-x\n", "+x\n", "+\n", "\\ no end\n", "@ -3,1 +3,0 @\n", "@ -4,0 +4,1 @\n", "@ -3,1 +2,1 @\n", "x\n"}
	var grow func(s string, size int)
	grow = func(s string, size int) {
		if !expectParse(t, s, 4) || size == 0 {
			return
		}
		for _, text := range some {
			grow(s+text, size-1)
		}
	}
	for _, header := range []string{"@ -1,1 +1,1 @\n", "@ -1,2 +1,1 @\n", "@ -1,1 +1,2 @\n", "@ -1,2 +1,2 @\n", "@ -1,2 +0,0 @\n", "@ -0,0 +1,2 @\n"} {
		grow(header, 5)
	}
}

// mostLines returns the greatest number of lines that a header of s announces.
func mostLines(s string) int {
	most := 0
	for _, text := range strings.SplitAfter(s, "\n") {
		if found := headerForm.FindStringSubmatch(text); found != nil {
			n, _ := strconv.Atoi(found[2])
			m, _ := strconv.Atoi(found[4])
			most = max(most, n+m)
		}
	}
	return most
}

// P10.5: texts with a byte or a line changed, against the definition.
func TestParseChanged(t *testing.T) {
	next := draw(6)
	bytes := "@ -+,0123x\\\n"
	for range 4000 {
		var l []api.Hunk
		from, to := next(3), 0
		to = from
		for range 1 + next(3) {
			all := smallHunks(from, to, 1+next(3), smallLines("x\n")[1:])
			h := all[next(len(all))]
			if !plainValid([]api.Hunk{{From: from, To: from, Lines: h.Lines}}) {
				continue
			}
			l = append(l, h)
			edits := hunk.Edits([]api.Hunk{{From: from, To: from, Lines: h.Lines}})
			for _, one := range edits {
				to += one.Inserted - one.Deleted
			}
			step := 4 + next(2)
			from, to = from+step, to+step
		}
		s := plainText(l)
		expectParse(t, s, 0)
		at := next(len(s) + 1)
		switch next(3) {
		case 0:
			s = s[:at] + string(bytes[next(len(bytes))]) + s[min(len(s), at+next(2)):]
		case 1:
			s = s[:at]
		case 2:
			all := strings.SplitAfter(s, "\n")
			at := next(len(all))
			s = strings.Join(slices.Insert(slices.Clone(all), at, all[next(len(all))]), "")
		}
		if most := mostLines(s); most <= 6 {
			expectParse(t, s, most)
		}
	}
}
