package commit

import (
	"strings"

	"graftage/api"
	"graftage/ident"
	"graftage/object"
)

// CheckTag reports whether a tag is valid.
func CheckTag(t api.Tag) api.Errno {
	switch {
	case !ident.Is(t.Object) || object.Word(t.Kind) == "" || !isTagName(t.Name) || !isPerson(t.Tagger) || strings.Contains(t.Text, zero):
		return api.ErrInvalid
	case len(t.Text) > api.MaxText:
		return api.ErrTooLarge
	}
	return api.OK
}

// isTagName reports whether a tag may have the given name.
func isTagName(s string) bool {
	return s != "" && len(s) <= api.MaxName && least(s) > leastByte
}

// TagBody encodes a tag.
func TagBody(t api.Tag) (string, api.Errno) {
	if e := CheckTag(t); e != api.OK {
		return "", e
	}
	head := line(objectWord, t.Object) + line(typeWord, object.Word(t.Kind)) + line(tagWord, t.Name) + line(taggerWord, Who(t.Tagger))
	return head + lineFeed + t.Text, api.OK
}

// ParseTag decodes the body of a tag.
func ParseTag(s string) (api.Tag, api.Errno) {
	var t api.Tag
	r := reader{rest: s}
	t.Object = r.id(objectWord)
	t.Kind = r.kind(typeWord)
	t.Name = r.value(tagWord)
	t.Tagger = r.who(taggerWord)
	t.Text = r.text()
	if r.bad {
		return api.Tag{}, api.ErrSyntax
	}
	if e := CheckTag(t); e != api.OK {
		return api.Tag{}, e
	}
	return t, api.OK
}
