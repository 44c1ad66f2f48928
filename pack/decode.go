package pack

import (
	"strings"

	"graftage/api"
	"graftage/commit"
	"graftage/delta"
	"graftage/ident"
	"graftage/object"
	"graftage/octet"
	"graftage/squeeze"
	"graftage/store"
)

// fault is what decoding panics with where a pack isn't as it must be.
type fault api.Errno

// raised returns the error that a recovered panic tells, or OK if there was none.
func raised(cause any) api.Errno {
	switch x := cause.(type) {
	case nil:
		return api.OK
	case fault:
		return api.Errno(x)
	}
	panic(cause) // it tells of a mistake in the program, not in the pack
}

// expect panics with the error e unless ok holds.
func expect(ok bool, e api.Errno) {
	if !ok {
		panic(fault(e))
	}
}

// pass panics with the error e, if it is one.
func pass(e api.Errno) {
	expect(e == api.OK, e)
}

// reader takes a pack without its checksum apart, from the offset at on.
type reader struct {
	pack string
	at   int
}

// open returns the reader of the objects of a pack, and their number.
func open(s string) (reader, int) {
	end := len(s) - sumBytes
	expect(end >= 0 && sumOf(s[:end]) == s[end:], api.ErrChecksum)
	r := reader{pack: s[:end], at: len(signature)}
	expect(strings.HasPrefix(r.pack, signature), api.ErrSyntax)
	n := r.number()
	expect(n <= api.MaxPack, api.ErrTooLarge)
	return r, int(n)
}

// number takes off a varint.
func (r *reader) number() uint64 {
	n, at, e := octet.Take(r.pack, r.at)
	pass(e)
	r.at = at
	return n
}

// text takes off a length-prefixed string.
func (r *reader) text() string {
	s, at, e := octet.TakeText(r.pack, r.at)
	pass(e)
	r.at = at
	return s
}

// bytes takes off n bytes.
func (r *reader) bytes(n int) string {
	expect(len(r.pack)-r.at >= n, api.ErrTruncated)
	start := r.at
	r.at += n
	return r.pack[start:r.at]
}

// record is an object as it is stored. The reader that it embeds takes it off the pack.
type record struct {
	reader
	start int // its offset
	kind  int
	back  int    // how many objects ahead of it its base stands in the pack, or 0
	far   string // the ID of its base outside of the pack, or ""
	data  string
}

// take takes off the record of the object at index i.
func (r *record) take(i int) {
	r.start = r.at
	head := int(r.bytes(1)[0])
	r.kind = head &^ (inside | outside)
	expect(object.Word(r.kind) != "", api.ErrSyntax)
	switch head - r.kind {
	case 0:
	case inside:
		back := r.number()
		expect(0 < back && back <= uint64(i), api.ErrSyntax)
		r.back = int(back)
	case outside:
		r.far = ident.Hex(r.bytes(idBytes))
	default:
		panic(fault(api.ErrSyntax))
	}
	r.data = r.text()
}

// each hands all records of a pack to use, one by one.
func each(s string, use func(r record)) {
	rest, n := open(s)
	for i := range n {
		r := record{reader: rest}
		r.take(i)
		use(r)
		rest = r.reader
	}
	expect(rest.at == len(rest.pack), api.ErrSyntax)
}

// unpacker turns records into objects.
type unpacker struct {
	bases   api.Store
	objects []api.Object
	depths  []int
	met     map[api.Object]bool
}

// add adds the object of a record.
func (u *unpacker) add(r record) {
	base, depth := u.base(r)
	expect(depth <= api.MaxChain, api.ErrTooLarge)
	body, e := squeeze.Decompress(r.data, api.MaxBytes)
	pass(e)
	if base.Kind != 0 {
		body, e = delta.Apply(base.Body, body)
		pass(e)
	}
	o := api.Object{Kind: r.kind, Body: body}
	pass(commit.Whole(o))
	expect(!u.met[o], api.ErrDuplicate)
	u.met[o] = true
	u.objects = append(u.objects, o)
	u.depths = append(u.depths, depth)
}

// base returns the object that a record is a delta against, the zero object if it is none, and the depth of the record's own object.
func (u *unpacker) base(r record) (api.Object, int) {
	switch {
	case r.back > 0:
		at := len(u.objects) - r.back
		expect(u.objects[at].Kind == r.kind, api.ErrMissingBase)
		return u.objects[at], u.depths[at] + 1
	case r.far != "":
		base, e := store.Get(u.bases, r.far)
		expect(e == api.OK && base.Kind == r.kind, api.ErrMissingBase)
		return base, 0
	}
	return api.Object{}, 0
}
