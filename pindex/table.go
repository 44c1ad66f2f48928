package pindex

import (
	"slices"
	"strings"

	"graftage/api"
	"graftage/ident"
	"graftage/octet"
	"graftage/pack"
)

// An index: the signature, the fan-out table, the IDs, an offset for each of them, and the checksum of the pack.
const (
	signature = "IDX1"
	fanSize   = 256
	wordSize  = 4
	idBytes   = 20
	rowSize   = idBytes + wordSize
	fixedSize = len(signature) + fanSize*wordSize + wordSize
)

// row is what an index tells of an object.
type row struct {
	raw    string // the bytes of its ID
	offset int    // of the object in the pack
}

// table is what an index tells of a pack.
type table struct {
	fan  [fanSize]uint32
	rows []row
	sum  uint32
}

// encode returns the index of a pack with these objects, which it sorts, and this checksum.
func encode(rows []row, sum uint32) string {
	slices.SortFunc(rows, func(a, b row) int { return strings.Compare(a.raw, b.raw) })
	out := []byte(signature)
	for _, n := range fanOf(rows) {
		out = append(out, octet.Word("", n)...)
	}
	for _, r := range rows {
		out = append(out, r.raw...)
	}
	for _, r := range rows {
		out = append(out, octet.Word("", uint32(r.offset))...)
	}
	return octet.Seal(octet.Word(string(out), sum))
}

// fanOf returns the fan-out table of some rows.
func fanOf(rows []row) [fanSize]uint32 {
	var fan [fanSize]uint32
	for _, r := range rows {
		fan[r.raw[0]]++
	}
	for i := 1; i < fanSize; i++ {
		fan[i] += fan[i-1]
	}
	return fan
}

// parse decodes an index.
func parse(x string) (table, api.Errno) {
	s, sealed := octet.Open(x)
	if !sealed {
		return table{}, api.ErrChecksum
	}
	n := (len(s) - fixedSize) / rowSize
	if !strings.HasPrefix(s, signature) || n < 0 || len(s) != fixedSize+n*rowSize {
		return table{}, api.ErrSyntax
	}
	t := take(s, n)
	for i := 1; i < n; i++ {
		if t.rows[i-1].raw >= t.rows[i].raw {
			return table{}, api.ErrSyntax
		}
	}
	if t.fan != fanOf(t.rows) {
		return table{}, api.ErrSyntax
	}
	return t, api.OK
}

// take decodes what follows the signature of an index of n objects.
func take(s string, n int) table {
	var t table
	at := len(signature)
	word := func() uint32 {
		value, next, _ := octet.TakeWord(s, at) // the length is right
		at = next
		return value
	}
	for i := range fanSize {
		t.fan[i] = word()
	}
	for range n {
		t.rows = append(t.rows, row{raw: s[at : at+idBytes]})
		at += idBytes
	}
	for i := range n {
		t.rows[i].offset = int(word())
	}
	t.sum = word()
	return t
}

// match returns the offsets of the objects of the pack p, in ascending order, or ErrIndexMismatch if the table is that of another one.
func (t table) match(p string) ([]int, api.Errno) {
	var listed []int
	for _, r := range t.rows {
		listed = append(listed, r.offset)
	}
	slices.Sort(listed)
	offsets, e := pack.Offsets(p)
	if e != api.OK || t.sum != octet.Sum(p) || !slices.Equal(listed, offsets) {
		return nil, api.ErrIndexMismatch
	}
	return offsets, api.OK
}

// find returns the offset of the object with the given ID and reports whether it is listed.
func (t table) find(id string) (int, bool) {
	raw, ok := ident.Raw(id)
	if !ok {
		return 0, false
	}
	low, high := uint32(0), t.fan[raw[0]]
	if raw[0] > 0 {
		low = t.fan[raw[0]-1]
	}
	near := t.rows[low:high]
	i, found := slices.BinarySearchFunc(near, raw, func(r row, raw string) int { return strings.Compare(r.raw, raw) })
	if !found {
		return 0, false
	}
	return near[i].offset, true
}

// ids returns the listed IDs that begin with head.
func (t table) ids(head string) []string {
	var ids []string
	for _, r := range t.rows {
		if id := ident.Hex(r.raw); strings.HasPrefix(id, head) {
			ids = append(ids, id)
		}
	}
	return ids
}
