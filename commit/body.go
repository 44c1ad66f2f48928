package commit

import (
	"strings"

	"graftage/api"
	"graftage/ident"
	"graftage/object"
)

const lineFeed = "\n"

// The words that the lines of bodies begin with.
const (
	treeWord      = "tree"
	parentWord    = "parent"
	authorWord    = "author"
	committerWord = "committer"
	objectWord    = "object"
	typeWord      = "type"
	tagWord       = "tag"
	taggerWord    = "tagger"
)

// line returns a line of a body.
func line(word, value string) string {
	return word + blank + value + lineFeed
}

// reader takes the lines of a body off, one by one.
type reader struct {
	rest string
	bad  bool // whether a line was not as it must be
}

// expect records whether a line is as it must be.
func (r *reader) expect(ok bool) {
	r.bad = r.bad || !ok
}

// at reports whether the next line begins with the given word.
func (r *reader) at(word string) bool {
	return strings.HasPrefix(r.rest, word+blank)
}

// value takes off a line that must begin with the given word and returns what follows the word.
func (r *reader) value(word string) string {
	text, rest, ended := strings.Cut(r.rest, lineFeed)
	value, ok := strings.CutPrefix(text, word+blank)
	r.expect(ended && ok)
	r.rest = rest
	return value
}

// id takes off a line with an object ID.
func (r *reader) id(word string) string {
	id := r.value(word)
	r.expect(ident.Is(id))
	return id
}

// kind takes off a line with the type name of a kind of objects.
func (r *reader) kind(word string) int {
	kind := object.Kind(r.value(word))
	r.expect(kind != 0)
	return kind
}

// who takes off a line with a person. One who is invalid comes as no one, who is invalid, too.
func (r *reader) who(word string) api.Person {
	p, e := ParseWho(r.value(word))
	r.expect(e != api.ErrSyntax)
	return p
}

// text takes off the empty line and returns what follows it.
func (r *reader) text() string {
	text, ok := strings.CutPrefix(r.rest, lineFeed)
	r.expect(ok)
	return text
}
