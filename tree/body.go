package tree

import (
	"bytes"

	"graftage/api"
	"graftage/ident"
)

const (
	zero    = 0 // the byte behind a name
	idBytes = 20
)

// modeWords holds what an entry's encoding begins with, at the index of its mode.
var modeWords = [...]string{api.ModeFile: "100644 ", api.ModeExec: "100755 ", api.ModeLink: "120000 ", api.ModeDir: "40000 "}

// Body encodes a tree.
func Body(l []api.Entry) (string, api.Errno) {
	if e := Check(l); e != api.OK {
		return "", e
	}
	var out []byte
	for _, e := range l {
		raw, _ := ident.Raw(e.Id)
		out = append(out, modeWords[e.Mode]...)
		out = append(out, e.Name...)
		out = append(out, zero)
		out = append(out, raw...)
	}
	return string(out), api.OK
}

// Parse decodes the body of a tree object.
func Parse(s string) ([]api.Entry, api.Errno) {
	var l []api.Entry
	for rest := []byte(s); len(rest) > 0; {
		entry, after, e := take(rest)
		if e != api.OK {
			return nil, e
		}
		l = append(l, entry)
		rest = after
	}
	if e := Check(l); e != api.OK {
		return nil, e
	}
	return l, api.OK
}

// take decodes the entry at the start of rest, which is not empty, and returns it and the bytes behind it.
func take(rest []byte) (api.Entry, []byte, api.Errno) {
	mode, rest, e := takeMode(rest)
	if e != api.OK {
		return api.Entry{}, nil, e
	}
	end := bytes.IndexByte(rest, zero)
	start := end + 1 // of the ID
	if end < 0 || len(rest)-start < idBytes {
		return api.Entry{}, nil, api.ErrTruncated
	}
	// Neither piece can reach into what follows it.
	name, raw := rest[:end:end], rest[start:start+idBytes:start+idBytes]
	entry := api.Entry{Mode: mode, Name: string(name), Id: ident.Hex(string(raw))}
	return entry, rest[start+idBytes:], api.OK
}

// takeMode decodes the mode and the blank at the start of rest, which is not empty, and returns the mode and the bytes behind the blank.
func takeMode(rest []byte) (int, []byte, api.Errno) {
	e := api.ErrSyntax
	for mode := api.ModeFile; mode <= api.ModeDir; mode++ {
		word := []byte(modeWords[mode])
		if after, ok := bytes.CutPrefix(rest, word); ok {
			return mode, after, api.OK
		}
		if bytes.HasPrefix(word, rest) {
			e = api.ErrTruncated
		}
	}
	return 0, nil, e
}
