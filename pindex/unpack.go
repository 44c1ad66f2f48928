package pindex

import (
	"slices"

	"graftage/api"
	"graftage/ident"
	"graftage/object"
	"graftage/octet"
	"graftage/pack"
)

const (
	packHead = "PAK1\x01" // of a pack of one object
	sumBytes = 20         // of the checksum of a pack
	inside   = 16         // is added to the kind of a delta whose base is in the pack
	outside  = 32         // is added to the kind of any other delta
)

// parcels are the objects of a pack as they are stored.
type parcels struct {
	pack    string
	offsets []int // ascending
	bases   api.Store
}

// stored returns the object at index i as it is stored.
func (l parcels) stored(i int) string {
	end := len(l.pack) - sumBytes
	if i+1 < len(l.offsets) {
		end = l.offsets[i+1]
	}
	return l.pack[l.offsets[i]:end]
}

// at returns the object at the given offset.
func (l parcels) at(offset int) (api.Object, api.Errno) {
	i, _ := slices.BinarySearch(l.offsets, offset)
	return l.unpack(i)
}

// unpack returns the object at index i. Each object on the way to it is read as the only one of a pack, with its base outside, so that no other one is decoded.
func (l parcels) unpack(i int) (api.Object, api.Errno) {
	stored := l.stored(i)
	head := stored[0]
	if head&inside == 0 {
		return readSingle(stored, l.bases)
	}
	back, next, _ := octet.Take(stored, 1)
	base, e := l.unpack(i - int(back))
	if e != api.OK {
		return api.Object{}, e
	}
	id := object.Id(base)
	raw, _ := ident.Raw(id)
	stored = string([]byte{head&^inside | outside}) + raw + stored[next:]
	return readSingle(stored, api.Store{Items: []api.Item{{Id: id, Kind: base.Kind, Body: base.Body}}})
}

// readSingle returns the object of a pack of one object, which is stored like this.
func readSingle(stored string, bases api.Store) (api.Object, api.Errno) {
	s := packHead + stored
	l, e := pack.Read(s+ident.Digest(s)[:sumBytes], bases)
	if e != api.OK {
		return api.Object{}, e
	}
	return l[0], api.OK
}
