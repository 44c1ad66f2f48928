package three

import (
	"strings"

	"graftage/api"
	"graftage/lines"
)

// The marker lines. Behind the first and the last one the name of a side follows.
const (
	openMark   = "<<<<<<< "
	baseMark   = "|||||||"
	divideMark = "======="
	closeMark  = ">>>>>>> "
	feed       = "\n"
)

// withBase is the style in which the base of a conflict is printed, too.
const withBase = 2

// Mark returns the text of the regions, with conflict markers.
func Mark(l []api.Region, ours, theirs string, style int) string {
	var out []string
	add := func(l ...string) {
		for _, line := range l {
			out = append(out, ended(line))
		}
	}
	for i, r := range l {
		switch {
		case conflicting(r):
			add(openMark + ours)
			add(r.Ours...)
			if style == withBase {
				add(baseMark)
				add(r.Base...)
			}
			add(divideMark)
			add(r.Theirs...)
			add(closeMark + theirs)
		case i < len(l)-1:
			add(r.Lines...)
		default:
			out = append(out, r.Lines...)
		}
	}
	return lines.Join(out)
}

// ended returns a line with a final line feed.
func ended(line string) string {
	if strings.HasSuffix(line, feed) {
		return line
	}
	return line + feed
}

// The kinds of markers.
const (
	noMarker = iota
	opener
	baser
	divider
	closer
)

// marker returns the kind of marker that a line is.
func marker(line string) int {
	whole := strings.TrimSuffix(line, feed)
	switch {
	case strings.HasPrefix(line, openMark):
		return opener
	case strings.HasPrefix(line, closeMark):
		return closer
	case whole == baseMark:
		return baser
	case whole == divideMark:
		return divider
	}
	return noMarker
}

// Marked reports whether s contains a marker line.
func Marked(s string) bool {
	for _, line := range lines.Split(s) {
		if marker(line) != noMarker {
			return true
		}
	}
	return false
}

// nests reports whether a marker may stand behind the marker last, the one before it, or noMarker outside of conflicts.
func nests(kind, last int) bool {
	switch kind {
	case divider:
		if last == baser {
			return true
		}
		// A conflict without a base is divided where its base would begin.
		fallthrough
	case baser:
		return last == opener
	case closer:
		return last == divider
	}
	return last == noMarker
}

// Parse returns the regions of a text with conflict markers.
func Parse(s string) ([]api.Region, api.Errno) {
	var p parser
	for _, line := range lines.Split(s) {
		if kind := marker(line); kind == noMarker {
			p.text(line)
		} else if !p.mark(kind) {
			return nil, api.ErrSyntax
		}
	}
	if p.last != noMarker {
		return nil, api.ErrSyntax
	}
	return p.out, api.OK
}

// parser reads a text line by line.
type parser struct {
	out      regions
	conflict api.Region // what has been read of a conflict that isn't closed yet
	last     int        // the marker behind which the next line stands, noMarker outside of conflicts
}

// text reads a line that isn't a marker.
func (p *parser) text(line string) {
	switch p.last {
	case opener:
		p.conflict.Ours = append(p.conflict.Ours, line)
	case baser:
		p.conflict.Base = append(p.conflict.Base, line)
	case divider:
		p.conflict.Theirs = append(p.conflict.Theirs, line)
	default:
		p.out.clean([]string{line})
	}
}

// mark reads a marker, and reports whether it may stand here.
func (p *parser) mark(kind int) bool {
	if !nests(kind, p.last) {
		return false
	}
	p.last = kind
	if kind == closer {
		p.conflict.Kind = api.RegionConflict
		p.out = append(p.out, p.conflict)
		p.conflict, p.last = api.Region{}, noMarker
	}
	return true
}
