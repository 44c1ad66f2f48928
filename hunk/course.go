package hunk

import (
	"strings"

	"graftage/api"
)

const lineFeed = '\n'

// Valid reports whether the list of hunks is valid.
func Valid(l []api.Hunk) bool {
	c := newCourse()
	for _, h := range l {
		n, m := sizes(h)
		if !c.open(h.From, h.To, n, m) || !c.takeAll(h.Lines) {
			return false
		}
	}
	return true
}

// sizes returns how many lines of the old and of the new list a hunk has.
func sizes(h api.Hunk) (int, int) {
	n, m := 0, 0
	for _, line := range h.Lines {
		if line.Kind != api.LineAdded {
			n++
		}
		if line.Kind != api.LineDeleted {
			m++
		}
	}
	return n, m
}

// course is what a list of hunks has come to, line by line, and with it what can follow. Its steps report whether any valid list starts with all that has been seen.
type course struct {
	end      int  // of the last hunk, in the old list
	drift    int  // the number of lines inserted so far minus that of lines deleted
	old, new int  // how many lines of both lists the last hunk still has to name
	changed  bool // whether the last hunk has deleted or inserted any
	last     int  // the kind of the line just taken, or 0 if there is none or it is known to be without a line feed
	closed   bool // whether no hunk may follow, since a line without a line feed is the last of its list
}

// newCourse returns the course of a list without any hunk.
func newCourse() course {
	// The first hunk may start at 0, while others leave a line between.
	return course{end: -1}
}

// open starts a hunk at from and to with n lines of the old and m lines of the new list; n and m aren't negative.
func (c *course) open(from, to, n, m int) bool {
	if c.closed || from <= c.end || from > api.MaxLines-n {
		return false
	}
	if to != from+c.drift || to > api.MaxLines-m {
		return false
	}
	c.end, c.drift = from+n, c.drift+m-n
	c.old, c.new = n, m
	c.changed, c.last = false, 0
	return c.possible()
}

// takeAll takes all lines of a hunk.
func (c *course) takeAll(l []api.HunkLine) bool {
	for _, line := range l {
		if line.Text == "" || !c.take(line.Kind) {
			return false
		}
		at := strings.IndexByte(line.Text, lineFeed)
		if at < 0 && !c.cut() || at >= 0 && at < len(line.Text)-1 {
			return false
		}
	}
	return true
}

// take goes on by a line of a kind, with a line feed.
func (c *course) take(kind int) bool {
	switch {
	case kind == api.LineContext:
		c.old--
		c.new--
	case kind == api.LineDeleted && c.last != api.LineAdded:
		c.old--
	case kind == api.LineAdded:
		c.new--
	default:
		return false
	}
	c.changed = c.changed || kind != api.LineContext
	c.last = kind
	return c.old >= 0 && c.new >= 0 && c.possible()
}

// possible reports whether the hunk can come to its end.
func (c *course) possible() bool {
	if c.last == api.LineAdded && c.old > 0 {
		return c.new > 0 // an unchanged line, since no deleted one may follow
	}
	return c.changed || c.old > 0 || c.new > 0
}

// cut takes the line feed off the line just taken.
func (c *course) cut() bool {
	kind := c.last
	c.last, c.closed = 0, true
	switch kind {
	case api.LineContext:
		return c.old == 0 && c.new == 0
	case api.LineDeleted:
		return c.old == 0
	case api.LineAdded:
		return c.new == 0
	}
	return false
}

// whole reports whether the last hunk has all its lines.
func (c *course) whole() bool {
	return c.old == 0 && c.new == 0
}
