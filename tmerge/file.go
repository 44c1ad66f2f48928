package tmerge

import (
	"cmp"

	"graftage/api"
	"graftage/lines"
	"graftage/three"
)

// none is the kind of what is no conflict.
const none = 0

// blending returns the ID of the merged text of three files, and the kind of the conflict. The base may be absent.
type blending func(b, o, t api.File) (string, int, api.Errno)

// isAbsent reports whether a file stands for none.
func isAbsent(f api.File) bool {
	return f == api.File{}
}

// decide merges three versions of a file and returns the kind of the conflict, too. It calls blend where the contents of all versions are needed.
func decide(b, o, t api.File, blend blending) (api.File, int, api.Errno) {
	at := cmp.Or(o.Path, t.Path)
	b.Path, o.Path, t.Path = "", "", "" // versions are equal wherever they are
	f, kind, e := combine(b, o, t, blend)
	if e != api.OK {
		return api.File{}, none, e
	}
	if !isAbsent(f) {
		f.Path = at
	}
	return f, kind, api.OK
}

// combine is decide for files without paths.
func combine(b, o, t api.File, blend blending) (api.File, int, api.Errno) {
	f, clash := pick(b, o, t)
	switch {
	case !clash:
		return f, none, api.OK
	case isAbsent(o):
		return t, api.ConflictModifyDelete, api.OK
	case isAbsent(t):
		return o, api.ConflictModifyDelete, api.OK
	}
	kind, e := none, api.OK
	f.Id, clash = pick(b.Id, o.Id, t.Id)
	if clash {
		f.Id, kind, e = blend(b, o, t)
	}
	f.Mode, clash = pick(b.Mode, o.Mode, t.Mode)
	if clash {
		kind = api.ConflictMode // there is a link, so that the contents have no smaller kind
	}
	if isAbsent(b) {
		kind = api.ConflictAddAdd
	}
	return f, kind, e
}

// pick returns what a three-way merge makes of three values, or ours and true if both sides have changed the base, each in its own way.
func pick[T comparable](base, ours, theirs T) (T, bool) {
	switch {
	case ours == theirs, theirs == base:
		return ours, false
	case ours == base:
		return theirs, false
	}
	return ours, true
}

// blender returns a function that merges texts, and keeps them, in a pool.
func blender(p *pool, opts api.MergeOptions) blending {
	return func(b, o, t api.File) (string, int, api.Errno) {
		texts, ok, e := p.texts(b, o, t)
		switch {
		case e != api.OK:
			return "", none, e
		case !ok:
			return o.Id, api.ConflictBinary, api.OK
		}
		text, kind := mergedText(texts, opts)
		id, e := p.put(api.Object{Kind: api.Blob, Body: text})
		return id, kind, e
	}
}

// texts returns the lines of three files, and reports whether all of them are text. An absent file has no lines.
func (p *pool) texts(b, o, t api.File) ([sides][]string, bool, api.Errno) {
	files := [sides]api.File{baseSide: b, ourSide: o, theirSide: t}
	var out [sides][]string
	for _, f := range files {
		if f.Mode == api.ModeLink {
			return out, false, api.OK
		}
	}
	ok := true
	for side, f := range files {
		if isAbsent(f) {
			continue
		}
		body, e := p.blob(f.Id)
		if e != api.OK {
			return out, false, e
		}
		out[side] = lines.Split(body)
		ok = ok && !lines.Binary(body) && len(out[side]) <= api.MaxLines
	}
	return out, ok, api.OK
}

// mergedText returns the text that three texts are merged to, and the kind of the conflict.
func mergedText(texts [sides][]string, opts api.MergeOptions) (string, int) {
	regions := three.Merge(texts[baseSide], texts[ourSide], texts[theirSide])
	if opts.Side == api.SideNone && !three.Clean(regions) {
		return three.Mark(regions, opts.Ours, opts.Theirs, opts.Style), api.ConflictContent
	}
	return lines.Join(three.Lines(regions, opts.Side)), none
}
