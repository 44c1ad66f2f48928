package pindex_test

import (
	"crypto/sha256"
	"encoding/binary"
	"encoding/hex"
	"fmt"
	"hash/crc32"
	"math"
	"slices"
	"strings"
	"testing"

	"graftage/api"
	"graftage/delta"
	"graftage/pack"
	"graftage/pindex"
	"graftage/squeeze"
)

// noise returns size bytes that depend on seed alone.
func noise(size int, seed uint64) string {
	out := make([]byte, 0, size)
	for range size {
		seed = seed*6364136223846793005 + 1442695040888963407
		out = append(out, byte(seed>>56))
	}
	return string(out)
}

// varint returns the varint of n.
func varint(n int) string {
	return string(binary.AppendUvarint(nil, uint64(n)))
}

// word returns the word of n.
func word(n uint32) string {
	return string(binary.BigEndian.AppendUint32(nil, n))
}

// sealed returns s followed by its checksum.
func sealed(s string) string {
	return s + word(crc32.ChecksumIEEE([]byte(s)))
}

// packed returns the packfile of some objects as they are stored.
func packed(stored ...string) string {
	s := "PAK1" + varint(len(stored)) + strings.Join(stored, "")
	sum := sha256.Sum256([]byte(s))
	return s + string(sum[:20])
}

// stored returns an object as it is stored, with this head and with these data, which are compressed.
func stored(head int, reference, data string) string {
	data = squeeze.Compress(data)
	return string([]byte{byte(head)}) + reference + varint(len(data)) + data
}

// whole, near and far return an object as it is stored whole, against an earlier object and against one outside.
func whole(o api.Object) string { return stored(o.Kind, "", o.Body) }

func near(o, base api.Object, back int) string {
	return stored(o.Kind+16, varint(back), delta.Make(base.Body, o.Body))
}

func far(o, base api.Object) string {
	return stored(o.Kind+32, plainRaw(base), delta.Make(base.Body, o.Body))
}

// plainRaw returns the bytes of an object's ID, hashed with a library of Go's.
func plainRaw(o api.Object) string {
	words := map[int]string{1: "blob", 2: "tree", 3: "commit", 4: "tag"}
	sum := sha256.Sum256(fmt.Appendf(nil, "%s %d\x00%s", words[o.Kind], len(o.Body), o.Body))
	return string(sum[:20])
}

// plainId returns an object's ID.
func plainId(o api.Object) string {
	return hex.EncodeToString([]byte(plainRaw(o)))
}

func blob(body string) api.Object { return api.Object{Kind: api.Blob, Body: body} }

// storeOf returns the store of some objects, sorted by ID.
func storeOf(l ...api.Object) api.Store {
	var s api.Store
	for _, o := range l {
		s.Items = append(s.Items, api.Item{Id: plainId(o), Kind: o.Kind, Body: o.Body})
	}
	slices.SortFunc(s.Items, func(a, b api.Item) int { return strings.Compare(a.Id, b.Id) })
	return s
}

// blobs returns n different blobs, of which many are much alike.
func blobs(n int, seed uint64) []api.Object {
	body := noise(80, seed)
	var l []api.Object
	for i := range n {
		if i%9 == 8 {
			body = noise(80, seed+uint64(i))
		}
		body = body[:i%40] + noise(5, seed+uint64(i)+1000) + body[i%40:]
		l = append(l, blob(body))
	}
	return l
}

// plainIndex returns an index with these raw IDs, in their order, with these offsets and with the checksum sum.
func plainIndex(raws []string, offsets []int, sum uint32) string {
	s := "IDX1"
	for first := range 256 {
		n := 0
		for _, raw := range raws {
			if int(raw[0]) <= first {
				n++
			}
		}
		s += word(uint32(n))
	}
	s += strings.Join(raws, "")
	for _, offset := range offsets {
		s += word(uint32(offset))
	}
	return sealed(s + word(sum))
}

// plainOf returns the index of a pack of these objects at these offsets.
func plainOf(p string, l []api.Object, offsets []int) string {
	at := make(map[string]int)
	var raws []string
	for i, o := range l {
		raws = append(raws, plainRaw(o))
		at[plainRaw(o)] = offsets[i]
	}
	slices.Sort(raws)
	var sorted []int
	for _, raw := range raws {
		sorted = append(sorted, at[raw])
	}
	return plainIndex(raws, sorted, crc32.ChecksumIEEE([]byte(p)))
}

// made returns a pack of some objects, with deltas, and its index.
func made(t *testing.T, l []api.Object) (string, string) {
	t.Helper()
	p, e := pack.Make(l, pack.Plan(l, 10, 5))
	if e != api.OK {
		t.Fatal(e)
	}
	x, e := pindex.Of(p, api.Store{})
	if e != api.OK {
		t.Fatal(e)
	}
	return p, x
}

// P26.1: the index is that of the definition, for packs of all sizes.
func TestOf(t *testing.T) {
	for n := range 60 {
		l := blobs(n, uint64(n))
		p, x := made(t, l)
		offsets, _ := pack.Offsets(p)
		if x != plainOf(p, l, offsets) {
			t.Errorf("the index of %d objects is not as it must be", n)
		}
	}
	l := blobs(1000, 5)
	p, x := made(t, l)
	if offsets, _ := pack.Offsets(p); x != plainOf(p, l, offsets) || len(x) != 4+1024+24*1000+4+4 {
		t.Error("the index of 1000 objects is not as it must be")
	}
	if p, x := made(t, []api.Object{blob("x")}); len(x) != 1060 || x != plainOf(p, []api.Object{blob("x")}, []int{5}) {
		t.Errorf("the index of one blob has %d bytes", len(x))
	}
}

// P26.1: the index of a thin pack needs its bases; errors are those of pack.Read.
func TestOfThin(t *testing.T) {
	base, o := blob(noise(50, 1)), blob(noise(50, 1)+"x")
	p := packed(far(o, base), whole(blob("y")))
	x, e := pindex.Of(p, storeOf(base, blob("z")))
	if want := plainOf(p, []api.Object{o, blob("y")}, []int{5, 5 + len(far(o, base))}); x != want || e != api.OK {
		t.Errorf("Of a thin pack = %d bytes, %d, want %d", len(x), e, len(want))
	}
	wrong := []string{"", p[1:], p + "x", p, packed("\x00"), packed(""), packed(whole(o), whole(o)), packed("\x01\x00"), packed(stored(2, "", "x")), packed(whole(base), stored(17, "\x01", "\x00\x00"))}
	for _, p := range wrong {
		_, want := pack.Read(p, storeOf(blob("z")))
		if x, e := pindex.Of(p, storeOf(blob("z"))); x != "" || e != want || want == api.OK {
			t.Errorf("Of(%q) = %d bytes, %d, want %d", p, len(x), e, want)
		}
	}
}

// expectCheck fails unless Check answers just want, and Find, Ids, Heads and Get the same where the index itself is at fault.
func expectCheck(t *testing.T, p, x string, want api.Errno) {
	t.Helper()
	if e := pindex.Check(p, x); e != want {
		t.Errorf("Check of an index of %d bytes = %d, want %d", len(x), e, want)
	}
	id := strings.Repeat("0e", 20)
	if want != api.OK {
		if o, e := pindex.Get(p, x, id, api.Store{}); o != (api.Object{}) || e != want {
			t.Errorf("Get from an index of %d bytes = %v, %d, want %d", len(x), o, e, want)
		}
	}
	if want != api.ErrChecksum && want != api.ErrSyntax {
		return
	}
	if ids, e := pindex.Ids(x); len(ids) != 0 || e != want {
		t.Errorf("Ids of an index of %d bytes = %q, %d, want %d", len(x), ids, e, want)
	}
	for _, head := range []string{"0e0e", "", id} {
		if ids, e := pindex.Heads(x, head); len(ids) != 0 || e != want {
			t.Errorf("Heads(%q) of an index of %d bytes = %q, %d, want %d", head, len(x), ids, e, want)
		}
	}
	if at, found := pindex.Find(x, id); at != 0 || found {
		t.Errorf("Find in an index of %d bytes = %d, %t", len(x), at, found)
	}
}

// P26.2: what is not sealed is told first.
func TestCheckSeal(t *testing.T) {
	p, x := made(t, blobs(3, 1))
	expectCheck(t, p, x, api.OK)
	for _, x := range []string{"", "IDX1", x[1:], x[:len(x)-1], x + "x", "x" + x} {
		expectCheck(t, p, x, api.ErrChecksum)
		expectCheck(t, "", x, api.ErrChecksum)
	}
	for at := range len(x) {
		bytes := []byte(x)
		bytes[at] ^= 1 << (at % 8)
		expectCheck(t, p, string(bytes), api.ErrChecksum)
	}
}

// P26.2, P26.4: what is sealed, but is no index.
func TestCheckForm(t *testing.T) {
	ids := []string{"\x05" + strings.Repeat("b", 19), "\x05" + strings.Repeat("c", 19), strings.Repeat("\xff", 20)}
	offsets := []int{5, 9, 12}
	good := plainIndex(ids, offsets, 7)
	if l, e := pindex.Ids(good); len(l) != 3 || e != api.OK {
		t.Fatalf("Ids = %q, %d", l, e)
	}
	if l, e := pindex.Ids(plainIndex(nil, nil, 7)); len(l) != 0 || e != api.OK {
		t.Errorf("Ids of the index of no object = %q, %d", l, e)
	}
	body := good[:len(good)-4]
	wrong := []string{"", "IDX1", "IDX2" + body[4:], "idx1" + body[4:], "\x00" + body, body + "\x00", body[:len(body)-1], body[:len(body)-4], body + "\x00\x00\x00\x00"}
	wrong = append(wrong, body+body[1028:1052], body[:1028]+body[1052:], body[:4]+body[8:], body[:1028]+body[len(body)-20:], body[:1028], "IDX1\x00\x00\x00\x01", body[:1031], body[:1032-24])
	for size := range 60 {
		wrong = append(wrong, "IDX1"+strings.Repeat("\x00", size))
		if size != 0 && size != 24 {
			wrong = append(wrong, "IDX1"+strings.Repeat("\x00", 1028+size))
		}
	}
	// Each word of the fan-out table has one value.
	for first := range 256 {
		for _, change := range []uint32{1, math.MaxUint32, 1 << 31} {
			at := 4 + 4*first
			n := binary.BigEndian.Uint32([]byte(body[at : at+4]))
			wrong = append(wrong, body[:at]+word(n+change)+body[at+4:])
		}
	}
	for _, s := range wrong {
		expectCheck(t, "", sealed(s), api.ErrSyntax)
	}
	orders := [][]string{{ids[1], ids[0], ids[2]}, {ids[0], ids[2], ids[1]}, {ids[2], ids[1], ids[0]}, {ids[0], ids[0], ids[2]}, {ids[1], ids[1], ids[2]}, {ids[0], ids[2], ids[2]}}
	for _, raws := range orders {
		expectCheck(t, "", plainIndex(raws, offsets, 7), api.ErrSyntax)
	}
	fan := strings.Repeat(word(0), 255)
	expectCheck(t, "", sealed("IDX1"+fan+word(1)+word(7)), api.ErrSyntax)
	expectCheck(t, "", sealed("IDX1"+fan+word(0)+ids[2]+word(5)+word(7)), api.ErrSyntax)
	expectCheck(t, "", sealed("IDX1"+fan+word(math.MaxUint32)+word(7)), api.ErrSyntax)
}

// P26.2: an index with another checksum, for what is no pack, or with other offsets.
func TestCheckMismatch(t *testing.T) {
	l := blobs(4, 2)
	p, x := made(t, l)
	other, y := made(t, blobs(4, 3))
	expectCheck(t, p, y, api.ErrIndexMismatch)
	expectCheck(t, other, x, api.ErrIndexMismatch)
	expectCheck(t, other, y, api.OK)
	for _, p := range []string{"", p + "x", p[1:], "x"} {
		expectCheck(t, p, x, api.ErrIndexMismatch)
	}
	// The checksum of what isn't a pack may still be listed.
	for _, p := range []string{"", "x", packed("\x00"), packed("")} {
		expectCheck(t, p, plainIndex(nil, nil, crc32.ChecksumIEEE([]byte(p))), api.ErrIndexMismatch)
	}
	expectCheck(t, packed(), plainIndex(nil, nil, crc32.ChecksumIEEE([]byte(packed()))), api.OK)
	var raws []string
	for _, o := range l {
		raws = append(raws, plainRaw(o))
	}
	slices.Sort(raws)
	offsets, _ := pack.Offsets(p)
	sum := crc32.ChecksumIEEE([]byte(p))
	a, b, c, d := offsets[0], offsets[1], offsets[2], offsets[3]
	for _, row := range [][]int{{a, b, c, c}, {a, a, c, d}, {a, b, c, d + 1}, {a - 1, b, c, d}, {0, b, c, d}, {a, b, c, 1 << 31}, {a, a, a, a}} {
		expectCheck(t, p, plainIndex(raws, row, sum), api.ErrIndexMismatch)
	}
	expectCheck(t, p, plainIndex(raws, []int{c, a, d, b}, sum), api.OK)
	expectCheck(t, p, plainIndex(raws, []int{d, c, b, a}, sum+1), api.ErrIndexMismatch)
	expectCheck(t, p, plainIndex(raws[:3], []int{a, b, c}, sum), api.ErrIndexMismatch)
	expectCheck(t, p, plainIndex(append(raws, strings.Repeat("\xff", 20)), []int{a, b, c, d, d}, sum), api.ErrIndexMismatch)
	expectCheck(t, p, plainIndex(nil, nil, sum), api.ErrIndexMismatch)
}

// P26.2: Check needs no bases, and doesn't look at the contents.
func TestCheckThin(t *testing.T) {
	base, o := blob(noise(50, 1)), blob(noise(50, 1)+"x")
	p := packed(far(o, base))
	expectCheck(t, p, plainOf(p, []api.Object{o}, []int{5}), api.OK)
	p = packed(stored(3, "", "no commit"))
	expectCheck(t, p, plainIndex([]string{strings.Repeat("q", 20)}, []int{5}, crc32.ChecksumIEEE([]byte(p))), api.OK)
}

// P26.3: Find answers the offset of each listed ID, and nothing for all else.
func TestFind(t *testing.T) {
	for n := range 40 {
		l := blobs(n*n/8, uint64(n))
		p, x := made(t, l)
		offsets, _ := pack.Offsets(p)
		for i, o := range l {
			id := plainId(o)
			if at, found := pindex.Find(x, id); at != offsets[i] || !found {
				t.Fatalf("Find of object %d of %d = %d, %t, want %d", i, len(l), at, found, offsets[i])
			}
			for _, other := range []string{id[:39], id + "0", strings.ToUpper(id), "", id[:38] + "zz", id[:20] + strings.Repeat("0", 20), id[:20] + strings.Repeat("f", 20), id[:2] + strings.Repeat("0", 38), id[:2] + strings.Repeat("f", 38)} {
				if at, found := pindex.Find(x, other); (at != 0 || found) && other != id {
					t.Fatalf("Find(%q) = %d, %t", other, at, found)
				}
			}
		}
		for first := range 256 {
			id := fmt.Sprintf("%02x", first) + strings.Repeat("7a", 19)
			if at, found := pindex.Find(x, id); at != 0 || found {
				t.Fatalf("Find(%q) = %d, %t", id, at, found)
			}
		}
	}
	// The offsets are answered as they are listed, whatever pack they are of.
	raws := []string{strings.Repeat("\x00", 20), "\x00" + strings.Repeat("\x01", 19), strings.Repeat("\x01", 20), strings.Repeat("\xff", 20)}
	x := plainIndex(raws, []int{math.MaxUint32, 0, 1 << 31, 7}, 0)
	for i, want := range []int{math.MaxUint32, 0, 1 << 31, 7} {
		if at, found := pindex.Find(x, hex.EncodeToString([]byte(raws[i]))); at != want || !found {
			t.Errorf("Find of ID %d = %d, %t, want %d", i, at, found, want)
		}
	}
}

// expectHeads fails unless Heads answers just this.
func expectHeads(t *testing.T, x, head string, want []string, e api.Errno) {
	t.Helper()
	if got, gotE := pindex.Heads(x, head); !slices.Equal(got, want) || gotE != e {
		t.Errorf("Heads(%q) = %q, %d, want %q, %d", head, got, gotE, want, e)
	}
}

// P26.4, P26.6: the IDs in ascending order, all of them and those with a prefix.
func TestIdsAndHeads(t *testing.T) {
	raws := []string{"\x00" + strings.Repeat("\x00", 19), "\x00\x01" + strings.Repeat("\x00", 18), "\x00\x01" + strings.Repeat("\x11", 18), "\x12\x34" + noise(18, 1), strings.Repeat("\xff", 20)}
	var ids []string
	for _, raw := range raws {
		ids = append(ids, hex.EncodeToString([]byte(raw)))
	}
	x := plainIndex(raws, []int{1, 2, 3, 4, 5}, 0)
	if got, e := pindex.Ids(x); !slices.Equal(got, ids) || e != api.OK {
		t.Errorf("Ids = %q, %d, want %q", got, e, ids)
	}
	expectHeads(t, x, "0000", ids[:1], api.OK)
	expectHeads(t, x, "0001", ids[1:3], api.OK)
	expectHeads(t, x, "00010", ids[1:2], api.OK)
	expectHeads(t, x, "00011", ids[2:3], api.OK)
	expectHeads(t, x, "1234", ids[3:4], api.OK)
	expectHeads(t, x, "1235", nil, api.OK)
	expectHeads(t, x, "0002", nil, api.OK)
	expectHeads(t, x, "ffff", ids[4:], api.OK)
	for _, id := range ids {
		for size := range 41 {
			var want []string
			for _, other := range ids {
				if strings.HasPrefix(other, id[:size]) {
					want = append(want, other)
				}
			}
			if size < 4 {
				expectHeads(t, x, id[:size], nil, api.ErrSyntax)
			} else {
				expectHeads(t, x, id[:size], want, api.OK)
			}
		}
		expectHeads(t, x, id+"0", nil, api.ErrSyntax)
	}
	for _, head := range []string{"0", "000", "000g", "FFFF", "ffff ", "\xff\xff\xff\xff", "0x00"} {
		expectHeads(t, x, head, nil, api.ErrSyntax)
		expectHeads(t, plainIndex(nil, nil, 0), head, nil, api.ErrSyntax)
	}
	expectHeads(t, plainIndex(nil, nil, 0), "0000", nil, api.OK)
	expectHeads(t, "x", "0", nil, api.ErrChecksum)
	expectHeads(t, sealed("x"), "0", nil, api.ErrSyntax)
}

// expectGet fails unless Get answers just this.
func expectGet(t *testing.T, p, x, id string, bases api.Store, want api.Object, e api.Errno) {
	t.Helper()
	if got, gotE := pindex.Get(p, x, id, bases); got != want || gotE != e {
		t.Errorf("Get(%.6q) = %.80v, %d, want %.80v, %d", id, got, gotE, want, e)
	}
}

// P26.5, P26.7: each object of a pack is got as pack.Read reads it, and nothing else is.
func TestGet(t *testing.T) {
	for n := range 30 {
		l := blobs(n, uint64(n))
		p, x := made(t, l)
		for _, o := range l {
			expectGet(t, p, x, plainId(o), api.Store{}, o, api.OK)
			expectGet(t, p, x, plainId(blob(o.Body+"x")), storeOf(blob(o.Body+"x")), api.Object{}, api.ErrNotFound)
			expectGet(t, p, x, plainId(o)[:39], api.Store{}, api.Object{}, api.ErrNotFound)
		}
		expectGet(t, p, x, "", api.Store{}, api.Object{}, api.ErrNotFound)
		bases := blobs(n+3, uint64(n))[:n/2]
		thin, e := pack.Thin(l, append(bases, blob("far away")))
		if e != api.OK {
			t.Fatal(e)
		}
		s := storeOf(append(bases, blob("far away"))...)
		x, e = pindex.Of(thin, s)
		if e != api.OK {
			t.Fatal(e)
		}
		for _, o := range l {
			expectGet(t, thin, x, plainId(o), s, o, api.OK)
		}
	}
}

// P26.5: objects of all kinds, and with bases of their kinds.
func TestGetKinds(t *testing.T) {
	tree := func(seed uint64) api.Object {
		return api.Object{Kind: api.Tree, Body: "100644 a\x00" + noise(20, 1) + "100644 b\x00" + noise(20, seed)}
	}
	change := func(text string) api.Object {
		return api.Object{Kind: api.Commits, Body: "tree " + strings.Repeat("0e", 20) + "\nauthor a <a@b> 5 +0000\ncommitter a <a@b> 5 +0000\n\n" + text}
	}
	tag := func(name string) api.Object {
		return api.Object{Kind: api.Tags, Body: "object " + strings.Repeat("0e", 20) + "\ntype blob\ntag " + name + "\ntagger a <a@b> 5 +0000\n\n"}
	}
	l := []api.Object{tree(2), change("one"), tag("one"), blob(tree(2).Body), tree(3), change("two"), tag("two"), blob(tree(3).Body), change("three")}
	p := packed(whole(l[0]), far(l[1], change("base")), whole(l[2]), whole(l[3]), near(l[4], l[0], 4), near(l[5], l[1], 4), near(l[6], l[2], 4), near(l[7], l[3], 4), near(l[8], l[5], 3))
	s := storeOf(change("base"))
	x, e := pindex.Of(p, s)
	if e != api.OK {
		t.Fatal(e)
	}
	for _, o := range l {
		expectGet(t, p, x, plainId(o), s, o, api.OK)
	}
	expectGet(t, p, x, plainId(l[8]), api.Store{}, api.Object{}, api.ErrMissingBase)
	expectGet(t, p, x, plainId(l[5]), storeOf(blob("x")), api.Object{}, api.ErrMissingBase)
	expectGet(t, p, x, plainId(l[4]), api.Store{}, l[4], api.OK)
}

// P26.5: the errors of the object and of its bases, that of the first base first; other objects don't matter.
func TestGetWrong(t *testing.T) {
	a, b, c := blob("first object"), blob("first object, too"), blob("first object, three")
	tree := api.Object{Kind: api.Tree}
	bad := "\x0b\x0c\x19\x00" // for a base of 11 bytes
	rows := []struct {
		stored []string
		o      api.Object // the last one, if it is read
		e      api.Errno
	}{
		{[]string{"\x01\x00"}, api.Object{}, api.ErrTruncated},
		{[]string{"\x01\x04\x01\x04ab"}, api.Object{}, api.ErrSyntax},
		{[]string{"\x01\x04\x81\x80\x80\x01"}, api.Object{}, api.ErrTooLarge},
		{[]string{stored(2, "", "x")}, api.Object{}, api.ErrSyntax},
		{[]string{stored(3, "", "tree")}, api.Object{}, api.ErrSyntax},
		{[]string{stored(2, "", "100644 ")}, api.Object{}, api.ErrTruncated},
		{[]string{far(b, a)}, b, api.OK},
		{[]string{far(c, b)}, api.Object{}, api.ErrMissingBase},
		{[]string{stored(34, plainRaw(a), "")}, api.Object{}, api.ErrMissingBase},
		{[]string{stored(33, plainRaw(tree), "")}, api.Object{}, api.ErrMissingBase},
		{[]string{stored(33, plainRaw(a), bad)}, api.Object{}, api.ErrDelta},
		{[]string{whole(a), stored(17, "\x01", bad)}, api.Object{}, api.ErrDelta},
		{[]string{whole(a), stored(17, "\x01", "")}, api.Object{}, api.ErrTruncated},
		{[]string{whole(a), stored(18, "\x01", "\x0c\x00")}, api.Object{}, api.ErrMissingBase},
		{[]string{whole(a), "\x12\x01\x00"}, api.Object{}, api.ErrMissingBase},
		{[]string{whole(a), "\x11\x01\x00"}, api.Object{}, api.ErrTruncated},
		{[]string{whole(tree), stored(18, "\x01", "\x00\x01\x02x")}, api.Object{}, api.ErrSyntax},
		{[]string{"\x01\x00", stored(17, "\x01", bad)}, api.Object{}, api.ErrTruncated},
		{[]string{stored(2, "", "x"), stored(17, "\x01", bad)}, api.Object{}, api.ErrSyntax},
		{[]string{far(c, b), stored(18, "\x01", bad)}, api.Object{}, api.ErrMissingBase},
		{[]string{whole(a), stored(17, "\x01", bad), "\x12\x01\x00"}, api.Object{}, api.ErrDelta},
		{[]string{"\x01\x00", whole(a), "\x12\x02\x00", near(b, a, 2), far(c, b), near(c, b, 2)}, c, api.OK},
		{[]string{stored(3, "", ""), whole(b)}, b, api.OK},
		{[]string{whole(a), whole(a), near(a, a, 2), near(a, a, 1)}, a, api.OK},
	}
	for _, row := range rows {
		p := packed(row.stored...)
		offsets, e := pack.Offsets(p)
		if e != api.OK {
			t.Fatal(e)
		}
		// The IDs are not those of the objects: they are not checked.
		var raws []string
		for i := range offsets {
			raws = append(raws, strings.Repeat(string([]byte{byte(i)}), 20))
		}
		x := plainIndex(raws, offsets, crc32.ChecksumIEEE([]byte(p)))
		last := hex.EncodeToString([]byte(raws[len(raws)-1]))
		expectGet(t, p, x, last, storeOf(a, tree), row.o, row.e)
	}
}

// P26.5: the length of a chain of deltas is not checked.
func TestGetChain(t *testing.T) {
	l := []api.Object{blob(noise(50, 1))}
	list := []string{whole(l[0])}
	for i := 1; i < api.MaxPack; i++ {
		l = append(l, blob(noise(50, 1)+fmt.Sprint(i)))
		list = append(list, near(l[i], l[i-1], 1))
	}
	p := packed(list...)
	offsets, e := pack.Offsets(p)
	if e != api.OK {
		t.Fatal(e)
	}
	x := plainOf(p, l, offsets)
	for _, i := range []int{0, 16, 17, 100, api.MaxPack - 1} {
		expectGet(t, p, x, plainId(l[i]), api.Store{}, l[i], api.OK)
	}
}

// P26.5: the errors of Check go ahead of ErrNotFound.
func TestGetChecks(t *testing.T) {
	l := blobs(3, 1)
	p, x := made(t, l)
	other, y := made(t, l[:2])
	for _, id := range []string{"", "z", plainId(l[0]), plainId(blob(""))} {
		expectGet(t, p, x[1:], id, api.Store{}, api.Object{}, api.ErrChecksum)
		expectGet(t, p, sealed(x), id, api.Store{}, api.Object{}, api.ErrSyntax)
		expectGet(t, p, y, id, api.Store{}, api.Object{}, api.ErrIndexMismatch)
		expectGet(t, other, x, id, api.Store{}, api.Object{}, api.ErrIndexMismatch)
	}
}

// R3: the store that is handed in stays as it is.
func TestStoreStays(t *testing.T) {
	bases := storeOf(blobs(6, 1)...)
	want := slices.Clone(bases.Items)
	l := blobs(9, 1)[6:]
	thin, e := pack.Thin(l, blobs(6, 1))
	if e != api.OK {
		t.Fatal(e)
	}
	x, e := pindex.Of(thin, bases)
	expectGet(t, thin, x, plainId(l[2]), bases, l[2], e)
	if !slices.Equal(bases.Items, want) {
		t.Error("the store has been changed")
	}
}
