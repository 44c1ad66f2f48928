package hunk

import (
	"strconv"
	"strings"

	"graftage/api"
	"graftage/lines"
)

const (
	contextSign = ' '
	deletedSign = '-'
	addedSign   = '+'
	headerStart = "@ "
	headerEnd   = " @\n"
	noEnd       = "\\ no end\n" // what follows a line that has no line feed
)

// Text returns the text form of the hunks.
func Text(l []api.Hunk) string {
	if !Valid(l) {
		return ""
	}
	var out strings.Builder
	write := func(line api.HunkLine) {
		out.WriteByte(sign(line.Kind))
		out.WriteString(line.Text)
		if line.Text[len(line.Text)-1] != lineFeed {
			out.WriteByte(lineFeed)
			out.WriteString(noEnd)
		}
	}
	for _, h := range l {
		n, m := sizes(h)
		out.WriteString(headerLine(h.From, h.To, n, m))
		for _, line := range h.Lines {
			write(line)
		}
	}
	return out.String()
}

// sign returns what stands before a line of a kind.
func sign(kind int) byte {
	switch kind {
	case api.LineDeleted:
		return deletedSign
	case api.LineAdded:
		return addedSign
	}
	return contextSign
}

// headerLine returns the header of a hunk with n lines of the old and m lines of the new list.
func headerLine(from, to, n, m int) string {
	span := func(sign byte, start, count int) string {
		return string([]byte{sign}) + strconv.Itoa(start+shift(count)) + "," + strconv.Itoa(count)
	}
	return headerStart + span(deletedSign, from, n) + " " + span(addedSign, to, m) + headerEnd
}

// shift returns how much more a header says than where count lines start.
func shift(count int) int {
	return min(count, 1)
}

// Parse parses the text form of hunks; on failure it returns the number of the offending line.
func Parse(s string) ([]api.Hunk, int, api.Errno) {
	p := parser{course: newCourse()}
	all := lines.Split(s)
	for n, line := range all {
		if line[len(line)-1] != lineFeed || !p.read(line) {
			return nil, n, api.ErrSyntax
		}
	}
	if !p.whole() {
		return nil, len(all), api.ErrSyntax
	}
	return p.hunks, 0, api.OK
}

// parser reads the text form of hunks. Its state is the course of what it has read.
type parser struct {
	course
	hunks []api.Hunk
}

// read reads a line, which ends with a line feed.
func (p *parser) read(line string) bool {
	switch {
	case line == noEnd:
		return p.unended()
	case p.whole():
		return p.header(line)
	}
	return p.body(line)
}

// header reads the first line of a hunk.
func (p *parser) header(line string) bool {
	rest := line
	number := func(before string) int {
		var n int
		n, rest = leading(strings.TrimPrefix(rest, before))
		return n
	}
	from, n := number(headerStart+"-"), number(",")
	to, m := number(" +"), number(",")
	from, to = from-shift(n), to-shift(m)
	// There is one way only to write a header, so that whatever has been passed over shows.
	if line != headerLine(from, to, n, m) || !p.open(from, to, n, m) {
		return false
	}
	p.hunks = append(p.hunks, api.Hunk{From: from, To: to})
	return true
}

// leading returns the number that s starts with, and what follows it. A number beyond all limits wraps around, so that it comes out as another one.
func leading(s string) (int, string) {
	n, at := 0, 0
	for at < len(s) && s[at] >= '0' && s[at] <= '9' {
		n = 10*n + int(s[at]-'0')
		at++
	}
	return n, s[at:]
}

// body reads a line of a hunk.
func (p *parser) body(line string) bool {
	kind := kindOf(line[0])
	if !p.take(kind) {
		return false
	}
	h := &p.hunks[len(p.hunks)-1]
	h.Lines = append(h.Lines, api.HunkLine{Kind: kind, Text: line[1:]})
	return true
}

// kindOf returns the kind of a line that starts with sign, or 0 if none does.
func kindOf(sign byte) int {
	switch sign {
	case contextSign:
		return api.LineContext
	case deletedSign:
		return api.LineDeleted
	case addedSign:
		return api.LineAdded
	}
	return 0
}

// unended reads the remark that the line before it has no line feed.
func (p *parser) unended() bool {
	if !p.cut() {
		return false
	}
	l := p.hunks[len(p.hunks)-1].Lines
	text := &l[len(l)-1].Text
	*text = (*text)[:len(*text)-1]
	return *text != ""
}
