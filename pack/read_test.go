package pack_test

import (
	"crypto/sha256"
	"encoding/binary"
	"encoding/hex"
	"fmt"
	"math"
	"slices"
	"strings"
	"testing"

	"graftage/api"
	"graftage/commit"
	"graftage/delta"
	"graftage/pack"
	"graftage/squeeze"
)

// expectRead fails unless Read answers just this, and Offsets and Count and Name what goes with it.
func expectRead(t *testing.T, s string, bases api.Store, want []api.Object, e api.Errno) {
	t.Helper()
	got, gotE := pack.Read(s, bases)
	if !slices.Equal(got, want) || gotE != e {
		t.Errorf("Read(%.80q) = %d objects, %d, want %d objects, %d", s, len(got), gotE, len(want), e)
	}
	if e != api.OK {
		return
	}
	if n, e := pack.Count(s); n != len(want) || e != api.OK {
		t.Errorf("Count of %d objects = %d, %d", len(want), n, e)
	}
	if l, e := pack.Offsets(s); len(l) != len(want) || e != api.OK {
		t.Errorf("Offsets of %d objects = %v, %d", len(want), l, e)
	}
}

// plain decodes a pack sentence by sentence. Without the contents it looks at nothing that Offsets doesn't look at.
type plain struct {
	rest     string // of the pack, without its checksum
	bases    api.Store
	contents bool
	objects  []api.Object
	depths   []int
	offsets  []int
}

// number takes off a varint.
func (p *plain) number() (uint64, api.Errno) {
	n, size := binary.Uvarint([]byte(p.rest))
	switch {
	case size == 0:
		return 0, api.ErrTruncated
	case size < 0 || size > 1 && p.rest[size-1] == 0:
		return 0, api.ErrSyntax
	}
	p.rest = p.rest[size:]
	return n, api.OK
}

// plainOpen checks what is ahead of the objects and returns their number.
func plainOpen(s string) (plain, int, api.Errno) {
	end := len(s) - 20
	if end < 0 {
		return plain{}, 0, api.ErrChecksum
	}
	if sum := sha256.Sum256([]byte(s[:end])); string(sum[:20]) != s[end:] {
		return plain{}, 0, api.ErrChecksum
	}
	if !strings.HasPrefix(s[:end], "PAK1") {
		return plain{}, 0, api.ErrSyntax
	}
	p := plain{rest: s[4:end]}
	n, e := p.number()
	if e != api.OK {
		return plain{}, 0, e
	}
	if n > 4096 {
		return plain{}, 0, api.ErrTooLarge
	}
	return p, int(n), api.OK
}

// plainRead decodes all of a pack.
func plainRead(s string, bases api.Store, contents bool) (plain, api.Errno) {
	p, n, e := plainOpen(s)
	if e != api.OK {
		return plain{}, e
	}
	p.bases, p.contents = bases, contents
	for range n {
		p.offsets = append(p.offsets, len(s)-20-len(p.rest))
		if e := p.one(); e != api.OK {
			return plain{}, e
		}
	}
	if p.rest != "" {
		return plain{}, api.ErrSyntax
	}
	return p, api.OK
}

// one takes off an object.
func (p *plain) one() api.Errno {
	if p.rest == "" {
		return api.ErrTruncated
	}
	head := int(p.rest[0])
	p.rest = p.rest[1:]
	kind := head % 16
	if kind < 1 || kind > 4 || head >= 48 {
		return api.ErrSyntax
	}
	i := len(p.offsets) - 1
	var back uint64
	id := ""
	if head/16 == 1 {
		n, e := p.number()
		if e != api.OK {
			return e
		}
		if n == 0 || n > uint64(i) {
			return api.ErrSyntax
		}
		back = n
	}
	if head/16 == 2 {
		if len(p.rest) < 20 {
			return api.ErrTruncated
		}
		id, p.rest = hex.EncodeToString([]byte(p.rest[:20])), p.rest[20:]
	}
	size, e := p.number()
	switch {
	case e != api.OK:
		return e
	case size > 1<<20:
		return api.ErrTooLarge
	case size > uint64(len(p.rest)):
		return api.ErrTruncated
	}
	data := p.rest[:size]
	p.rest = p.rest[size:]
	if !p.contents {
		return api.OK
	}
	return p.content(kind, int(back), id, data)
}

// content decodes what the string of an object holds.
func (p *plain) content(kind, back int, id, data string) api.Errno {
	depth := 0
	var base api.Object
	if back > 0 {
		base = p.objects[len(p.objects)-back]
		depth = p.depths[len(p.objects)-back] + 1
	}
	for _, item := range p.bases.Items {
		if item.Id == id {
			base = api.Object{Kind: item.Kind, Body: item.Body}
		}
	}
	if (back > 0 || id != "") && base.Kind != kind {
		return api.ErrMissingBase
	}
	if depth > 16 {
		return api.ErrTooLarge
	}
	body, e := squeeze.Decompress(data, 1<<20)
	if e == api.OK && base.Kind != 0 {
		body, e = delta.Apply(base.Body, body)
	}
	if e != api.OK {
		return e
	}
	o := api.Object{Kind: kind, Body: body}
	if e := commit.Whole(o); e != api.OK {
		return e
	}
	if slices.Contains(p.objects, o) {
		return api.ErrDuplicate
	}
	p.objects = append(p.objects, o)
	p.depths = append(p.depths, depth)
	return api.OK
}

// expectAll fails unless Read, Offsets and Count answer what the definition says.
func expectAll(t *testing.T, s string, bases api.Store) {
	t.Helper()
	p, e := plainRead(s, bases, true)
	got, gotE := pack.Read(s, bases)
	if !slices.Equal(got, p.objects) || gotE != e {
		t.Errorf("Read(%q) = %d objects, %d, want %d objects, %d", s, len(got), gotE, len(p.objects), e)
	}
	p, e = plainRead(s, bases, false)
	offsets, gotE := pack.Offsets(s)
	if !slices.Equal(offsets, p.offsets) || gotE != e {
		t.Errorf("Offsets(%q) = %v, %d, want %v, %d", s, offsets, gotE, p.offsets, e)
	}
	_, want, e := plainOpen(s)
	if n, gotE := pack.Count(s); n != want || gotE != e {
		t.Errorf("Count(%q) = %d, %d, want %d, %d", s, n, gotE, want, e)
	}
}

// raw returns an object as it is stored, with this head and with these data, which are compressed.
func raw(head int, reference, data string) string {
	return string([]byte{byte(head)}) + reference + text(squeeze.Compress(data))
}

// P25.4, P25.5: what is ahead of the objects, with its errors in their order.
func TestReadOpening(t *testing.T) {
	rows := []struct {
		s     string
		n     int
		count api.Errno
		read  api.Errno
	}{
		{"", 0, api.ErrChecksum, api.ErrChecksum},
		{"PAK1\x00", 0, api.ErrChecksum, api.ErrChecksum},
		{closed("")[:19], 0, api.ErrChecksum, api.ErrChecksum},
		{closed("PAK1\x00") + "\x00", 0, api.ErrChecksum, api.ErrChecksum},
		{closed(""), 0, api.ErrSyntax, api.ErrSyntax},
		{closed("P"), 0, api.ErrSyntax, api.ErrSyntax},
		{closed("PAK"), 0, api.ErrSyntax, api.ErrSyntax},
		{closed("PAK2\x00"), 0, api.ErrSyntax, api.ErrSyntax},
		{closed("pak1\x00"), 0, api.ErrSyntax, api.ErrSyntax},
		{closed("\x00PAK1"), 0, api.ErrSyntax, api.ErrSyntax},
		{closed("PAK2\xff"), 0, api.ErrSyntax, api.ErrSyntax},
		{closed("PAK1"), 0, api.ErrTruncated, api.ErrTruncated},
		{closed("PAK1\x80"), 0, api.ErrTruncated, api.ErrTruncated},
		{closed("PAK1\x80\x00"), 0, api.ErrSyntax, api.ErrSyntax},
		{closed("PAK1" + strings.Repeat("\xff", 9) + "\x02"), 0, api.ErrSyntax, api.ErrSyntax},
		{closed("PAK1" + varint(4097)), 0, api.ErrTooLarge, api.ErrTooLarge},
		{closed("PAK1" + varint(math.MaxInt)), 0, api.ErrTooLarge, api.ErrTooLarge},
		{closed("PAK1" + strings.Repeat("\xff", 9) + "\x01"), 0, api.ErrTooLarge, api.ErrTooLarge},
		{closed("PAK1" + varint(4096)), 4096, api.OK, api.ErrTruncated},
		{closed("PAK1\x03\x00"), 3, api.OK, api.ErrSyntax},
		{closed("PAK1\x00"), 0, api.OK, api.OK},
		{closed("PAK1\x00\x00"), 0, api.OK, api.ErrSyntax},
	}
	for _, row := range rows {
		if n, e := pack.Count(row.s); n != row.n || e != row.count {
			t.Errorf("Count(%q) = %d, %d, want %d, %d", row.s, n, e, row.n, row.count)
		}
		if l, e := pack.Offsets(row.s); len(l) != 0 || e != row.read {
			t.Errorf("Offsets(%q) = %v, %d, want %d", row.s, l, e, row.read)
		}
		expectRead(t, row.s, api.Store{}, nil, row.read)
		expectAll(t, row.s, api.Store{})
	}
}

// P25.4, P25.6: what stands ahead of the data of an object, with its errors in their order.
func TestReadHeads(t *testing.T) {
	first := whole(blob("first"))
	id := strings.Repeat("\x07", 20)
	rows := []struct {
		stored string
		e      api.Errno
	}{
		{"", api.ErrTruncated},
		{"\x00", api.ErrSyntax},
		{"\x05\x00", api.ErrSyntax},
		{"\x0f", api.ErrSyntax},
		{"\x10", api.ErrSyntax},
		{"\x15", api.ErrSyntax},
		{"\x20", api.ErrSyntax},
		{"\x25" + id, api.ErrSyntax},
		{"\x31\x01" + id, api.ErrSyntax},
		{"\x41", api.ErrSyntax},
		{"\x81", api.ErrSyntax},
		{"\xff", api.ErrSyntax},
		{"\x11", api.ErrTruncated},
		{"\x11\x80", api.ErrTruncated},
		{"\x11\x80\x00", api.ErrSyntax},
		{"\x11\x00", api.ErrSyntax},
		{"\x11\x02", api.ErrSyntax},
		{"\x11\x02\x80", api.ErrSyntax},
		{"\x11" + strings.Repeat("\xff", 9) + "\x01", api.ErrSyntax},
		{"\x11" + strings.Repeat("\xff", 8) + "\x7f", api.ErrSyntax},
		{"\x11\x01", api.ErrTruncated},
		{"\x11\x01\x80\x00", api.ErrSyntax},
		{"\x21", api.ErrTruncated},
		{"\x21" + id[:19], api.ErrTruncated},
		{"\x21" + id, api.ErrTruncated},
		{"\x21" + id + "\x80\x00", api.ErrSyntax},
		{"\x01", api.ErrTruncated},
		{"\x01\x80", api.ErrTruncated},
		{"\x01\x80\x00", api.ErrSyntax},
		{"\x01\x01", api.ErrTruncated},
		{"\x01\x15" + id, api.ErrTruncated},
		{"\x01" + varint(1<<20+1), api.ErrTooLarge},
		{"\x01" + varint(1<<20), api.ErrTruncated},
		{"\x01" + strings.Repeat("\xff", 9) + "\x01", api.ErrTooLarge},
	}
	for _, row := range rows {
		s := packed(first, row.stored)
		expectRead(t, s, api.Store{}, nil, row.e)
		if l, e := pack.Offsets(s); len(l) != 0 || e != row.e {
			t.Errorf("Offsets(%q) = %v, %d, want %d", s, l, e, row.e)
		}
		expectAll(t, s, api.Store{})
	}
}

// P25.4: the base, the depth, the contents and the duplicates, with their errors in their order; Offsets tells none of them.
func TestReadContents(t *testing.T) {
	a, b := blob("first object"), blob("second object")
	tree := treeOf(1)
	bases := storeOf(a, tree)
	same, bad := "\x0c\x0c\x19\x00", "\x0b\x0c\x19\x00"
	rows := []struct {
		stored []string
		e      api.Errno
	}{
		{[]string{whole(b)}, api.OK},
		{[]string{raw(1, "", "")}, api.OK},
		{[]string{raw(2, "", "")}, api.OK},
		{[]string{"\x01\x00"}, api.ErrTruncated},
		{[]string{"\x01\x02\x01\x02"}, api.ErrTruncated},
		{[]string{"\x01\x04\x01\x02ab"}, api.ErrSyntax},
		{[]string{"\x01" + text(varint(1<<20+1))}, api.ErrTooLarge},
		{[]string{raw(1, "", strings.Repeat("a", 1<<20))}, api.OK},
		{[]string{raw(1, "", strings.Repeat("a", 1<<20+1))}, api.ErrTooLarge},
		{[]string{raw(2, "", "100644 ")}, api.ErrTruncated},
		{[]string{raw(2, "", "x")}, api.ErrSyntax},
		{[]string{raw(3, "", "")}, api.ErrSyntax},
		{[]string{raw(4, "", "tag")}, api.ErrSyntax},
		{[]string{raw(33, plainRaw(a), same)}, api.OK},
		{[]string{raw(33, plainRaw(b), same)}, api.ErrMissingBase},
		{[]string{raw(33, plainRaw(tree), bad)}, api.ErrMissingBase},
		{[]string{raw(34, plainRaw(a), same)}, api.ErrMissingBase},
		{[]string{"\x21" + plainRaw(b) + "\x00"}, api.ErrMissingBase},
		{[]string{"\x21" + plainRaw(a) + "\x00"}, api.ErrTruncated},
		{[]string{raw(33, plainRaw(a), bad)}, api.ErrDelta},
		{[]string{raw(33, plainRaw(a), "\x0c\x0c")}, api.ErrTruncated},
		{[]string{raw(33, plainRaw(a), same+"x")}, api.ErrSyntax},
		{[]string{raw(34, plainRaw(tree), delta.Make(tree.Body, "x"))}, api.ErrSyntax},
		{[]string{whole(a), raw(17, "\x01", same)}, api.ErrDuplicate},
		{[]string{whole(a), raw(17, "\x01", bad)}, api.ErrDelta},
		{[]string{whole(a), raw(18, "\x01", same)}, api.ErrMissingBase},
		{[]string{whole(a), "\x12\x01\x00"}, api.ErrMissingBase},
		{[]string{whole(a), "\x12\x01\x05"}, api.ErrTruncated},
		{[]string{whole(a), raw(17, "\x01", "\x0c\x05\x09\x00\x02x")}, api.OK},
		{[]string{whole(a), whole(tree), raw(17, "\x02", "\x0c\x05\x09\x00\x02x")}, api.OK},
		{[]string{whole(a), whole(tree), raw(17, "\x01", "\x0c\x05\x09\x00\x02x")}, api.ErrMissingBase},
		{[]string{whole(a), whole(b), whole(a)}, api.ErrDuplicate},
		{[]string{whole(a), whole(a), "\x00"}, api.ErrDuplicate},
		{[]string{whole(a), raw(33, plainRaw(a), same)}, api.ErrDuplicate},
		{[]string{raw(1, "", ""), raw(2, "", "")}, api.OK},
		{[]string{raw(3, "", ""), "\x00"}, api.ErrSyntax},
		{[]string{raw(33, plainRaw(b), same), "\x00"}, api.ErrMissingBase},
	}
	for _, row := range rows {
		s := packed(row.stored...)
		if _, e := pack.Read(s, bases); e != row.e {
			t.Errorf("Read(%.200q) = %d, want %d", s, e, row.e)
		}
		if row.e == api.OK || len(s) < 1000 {
			expectAll(t, s, bases)
		}
		if row.e == api.OK {
			left := packed(append(row.stored, "x")...)
			left = closed("PAK1" + varint(len(row.stored)) + left[5:len(left)-20])
			expectRead(t, left, bases, nil, api.ErrSyntax)
			expectAll(t, left, bases)
		}
	}
}

// P25.4: a chain of deltas may be MaxChain deep; one against an object outside begins at 0.
func TestReadDepth(t *testing.T) {
	base := blob(noise(50, 256, 1))
	for _, start := range []string{"", far(blob(base.Body+"x"), base)} {
		stored := []string{whole(blob(base.Body + "x"))}
		l := []api.Object{blob(base.Body + "x")}
		if start != "" {
			stored[0] = start
		}
		for i := range 16 {
			o := blob(fmt.Sprint(base.Body, "x", i))
			stored = append(stored, near(o, l[i], 1))
			l = append(l, o)
		}
		expectRead(t, packed(stored...), storeOf(base), l, api.OK)
		deep := near(blob("y"), l[16], 1)
		expectRead(t, packed(append(stored, deep)...), storeOf(base), nil, api.ErrTooLarge)
		expectRead(t, packed(append(stored, "\x11\x01\x00")...), storeOf(base), nil, api.ErrTooLarge)
		expectRead(t, packed(append(stored, "\x12\x01\x00")...), storeOf(base), nil, api.ErrMissingBase)
		side := near(blob("y"), l[15], 2)
		expectRead(t, packed(append(stored, side)...), storeOf(base), append(slices.Clone(l), blob("y")), api.OK)
		if l, e := pack.Offsets(packed(append(stored, deep)...)); len(l) != 18 || e != api.OK {
			t.Errorf("Offsets of a chain that is too deep = %v, %d", l, e)
		}
	}
}

// P25.4 to P25.6: mangled packs, each against the definition.
func TestReadMangled(t *testing.T) {
	for seed := range uint64(30) {
		next := numbers(seed)
		all := medley(8, seed)
		s, e := pack.Thin(all[3:], all[:3])
		if e != api.OK {
			t.Fatal(e)
		}
		bases := storeOf(all[:3]...)
		expectAll(t, s, bases)
		expectAll(t, s, api.Store{})
		content := s[:len(s)-20]
		for at := 4; at <= len(content); at++ {
			b := string([]byte{byte(next(256 >> next(8)))})
			rest := content[min(at+1, len(content)):]
			for _, mangled := range []string{content[:at], content[:at] + b + content[at:], content[:at] + rest, content[:at] + b + rest} {
				expectAll(t, closed(mangled), bases)
			}
		}
	}
}

// P25.6: the offsets are those at which the objects begin.
func TestOffsets(t *testing.T) {
	a, b := blob("first object, and rather long"), blob("first object, and rather long too")
	s := packed(whole(a), near(b, a, 1), far(treeOf(1), treeOf(2)))
	one := 5 + len(whole(a))
	want := []int{5, one, one + len(near(b, a, 1))}
	if l, e := pack.Offsets(s); !slices.Equal(l, want) || e != api.OK {
		t.Errorf("Offsets = %v, %d, want %v", l, e, want)
	}
	for i, at := range want {
		if head := []byte{1, 17, 34}[i]; s[at] != head {
			t.Errorf("object %d begins with %d, want %d", i, s[at], head)
		}
	}
	var many []string
	for i := range 200 {
		many = append(many, whole(blob(fmt.Sprint(i))))
	}
	if l, e := pack.Offsets(packed(many...)); e != api.OK || len(l) != 200 || l[0] != 6 {
		t.Errorf("Offsets of 200 objects = %v, %d", l, e)
	}
}

// P25.7, P25.9: the name is made of the sorted IDs, whatever the order and the plan.
func TestName(t *testing.T) {
	if got, want := pack.Name(closed("PAK1\x00")), "e3b0c44298fc1c149afbf4c8996fb92427ae41e4"; got != want {
		t.Errorf("Name of the pack without objects = %q, want %q", got, want)
	}
	for seed := range uint64(30) {
		l := medley(1+int(seed), seed)
		var ids []string
		for _, o := range l {
			ids = append(ids, plainId(o))
		}
		slices.Sort(ids)
		sum := sha256.Sum256([]byte(strings.Join(ids, "")))
		want := hex.EncodeToString(sum[:20])
		for range 3 {
			for deep := range 3 {
				s, e := pack.Make(l, pack.Plan(l, 10, deep))
				if got := pack.Name(s); got != want || e != api.OK {
					t.Errorf("Name of %d objects = %q, %d, want %q", len(l), got, e, want)
				}
			}
			slices.Reverse(l)
			l = append(l[len(l)/2:], l[:len(l)/2]...)
		}
		if s := packed(whole(l[0])); len(l) > 1 && pack.Name(s) == want {
			t.Errorf("Name of one object is that of %d", len(l))
		}
	}
}

// P25.7: what can't be read without bases has no name.
func TestNameless(t *testing.T) {
	a, b := blob(noise(50, 256, 1)), blob(noise(50, 256, 1)+"x")
	thin, e := pack.Thin([]api.Object{b}, []api.Object{a})
	if e != api.OK || thin != packed(far(b, a)) {
		t.Fatalf("Thin = %q, %d", thin, e)
	}
	for _, s := range []string{"", thin, packed(whole(a)) + "x", packed(whole(a), whole(a)), packed("\x00"), closed("PAK1\x01")} {
		if name := pack.Name(s); name != "" {
			t.Errorf("Name(%q) = %q", s, name)
		}
	}
}

// P25.8, P25.10: what Plan answers is valid, saves half of each delta's object, and leads Read back to the objects.
func TestRoundTrip(t *testing.T) {
	for seed := range uint64(80) {
		next := numbers(seed)
		l := medley(1+next(60), seed)
		plan := pack.Plan(l, next(70), next(20))
		for i, step := range plan {
			if step.Base >= 0 && 2*len(delta.Make(l[step.Base].Body, l[i].Body)) >= len(l[i].Body) {
				t.Errorf("the delta of object %d has half its size", i)
			}
		}
		s, e := pack.Make(l, plan)
		if e != api.OK {
			t.Fatal(e)
		}
		expectRead(t, s, api.Store{}, l, api.OK)
		expectAll(t, s, api.Store{})
		expectRead(t, s, storeOf(medley(5, seed+1)...), l, api.OK)
		bases := medley(20, seed)
		thin, e := pack.Thin(l, bases)
		if e != api.OK {
			t.Fatal(e)
		}
		expectRead(t, thin, storeOf(append(bases, medley(5, seed+1)...)...), l, api.OK)
	}
}

// P25.8: bodies of MaxBytes come back, whole and as deltas; a delta beyond MaxBytes doesn't.
func TestRoundTripLong(t *testing.T) {
	tile := noise(3000, 256, 1)
	a, b := blob(strings.Repeat(tile, 400)[:1<<20]), blob(strings.Repeat(noise(3000, 256, 2), 400)[:1<<20])
	l := []api.Object{a, b, blob(a.Body[1:] + "x")}
	for _, deep := range []int{0, 1} {
		s, e := pack.Make(l, pack.Plan(l, 5, deep))
		expectRead(t, s, api.Store{}, l, e)
	}
	s, e := pack.Make(l, []api.DeltaPlan{whole0, {Base: 0, Deep: 1}, whole0})
	if e != api.OK {
		t.Fatal(e)
	}
	expectRead(t, s, api.Store{}, nil, api.ErrTooLarge)
}

// P25.11: a byte that is changed, removed from the end or appended is noticed.
func TestIntegrity(t *testing.T) {
	l := medley(5, 3)
	s, e := pack.Make(l, pack.Plan(l, 5, 5))
	if e != api.OK {
		t.Fatal(e)
	}
	for at := range len(s) {
		for _, flip := range []byte{1, 128, 255} {
			bytes := []byte(s)
			bytes[at] ^= flip
			expectRead(t, string(bytes), api.Store{}, nil, api.ErrChecksum)
			if n, e := pack.Count(string(bytes)); n != 0 || e != api.ErrChecksum {
				t.Errorf("Count with byte %d changed = %d, %d", at, n, e)
			}
		}
		if l, e := pack.Offsets(s[:at]); len(l) != 0 || e != api.ErrChecksum {
			t.Errorf("Offsets of %d bytes = %v, %d", at, l, e)
		}
	}
	for b := range 256 {
		expectRead(t, s+string([]byte{byte(b)}), api.Store{}, nil, api.ErrChecksum)
	}
}

// R3: the lists that are handed in stay as they are, their spare capacity too.
func TestListsStay(t *testing.T) {
	backing := medley(30, 5)
	want := slices.Clone(backing)
	bases, l := backing[:10:20], backing[10:20:30]
	plan := append(pack.Plan(l, 5, 5), whole0, whole0)
	steps := slices.Clone(plan)
	pack.Make(l, plan[:10])
	pack.Thin(l, bases)
	s := storeOf(bases...)
	items := slices.Clone(s.Items)
	thin, e := pack.Thin(l, bases)
	got, readE := pack.Read(thin, s)
	if !slices.Equal(backing, want) || !slices.Equal(plan, steps) || !slices.Equal(s.Items, items) {
		t.Error("a list has been changed")
	}
	if !slices.Equal(got, l) || e != api.OK || readE != api.OK {
		t.Errorf("Thin = %d, and Read of it %d", e, readE)
	}
}
