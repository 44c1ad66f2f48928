package pack_test

import (
	"crypto/sha256"
	"encoding/binary"
	"encoding/hex"
	"fmt"
	"math"
	"slices"
	"strings"
	"testing"

	"graftage/api"
	"graftage/delta"
	"graftage/pack"
	"graftage/squeeze"
)

// noise returns size bytes out of letters, at most 256, that depend on seed alone.
func noise(size, letters int, seed uint64) string {
	out := make([]byte, 0, size)
	for range size {
		seed = seed*6364136223846793005 + 1442695040888963407
		out = append(out, byte((seed>>40)%uint64(letters)))
	}
	return string(out)
}

// numbers returns a source of numbers below its argument that depend on seed alone.
func numbers(seed uint64) func(n int) int {
	return func(n int) int {
		seed = seed*6364136223846793005 + 1442695040888963407
		return int((seed >> 33) % uint64(n))
	}
}

// varint returns the varint of n.
func varint(n int) string {
	return string(binary.AppendUvarint(nil, uint64(n)))
}

// text returns a length-prefixed string.
func text(s string) string {
	return varint(len(s)) + s
}

// closed returns s followed by the first 20 bytes of its digest.
func closed(s string) string {
	sum := sha256.Sum256([]byte(s))
	return s + string(sum[:20])
}

// packed returns the packfile of some objects as they are stored.
func packed(stored ...string) string {
	return closed("PAK1" + varint(len(stored)) + strings.Join(stored, ""))
}

// whole, near and far return an object as it is stored whole, against an earlier object and against one outside.
func whole(o api.Object) string {
	return string([]byte{byte(o.Kind)}) + text(squeeze.Compress(o.Body))
}

func near(o, base api.Object, back int) string {
	return string([]byte{byte(o.Kind + 16)}) + varint(back) + text(squeeze.Compress(delta.Make(base.Body, o.Body)))
}

func far(o, base api.Object) string {
	return string([]byte{byte(o.Kind + 32)}) + plainRaw(base) + text(squeeze.Compress(delta.Make(base.Body, o.Body)))
}

// plainRaw returns the bytes of an object's ID, hashed with a library of Go's.
func plainRaw(o api.Object) string {
	words := map[int]string{1: "blob", 2: "tree", 3: "commit", 4: "tag"}
	sum := sha256.Sum256(fmt.Appendf(nil, "%s %d\x00%s", words[o.Kind], len(o.Body), o.Body))
	return string(sum[:20])
}

// plainId returns an object's ID.
func plainId(o api.Object) string {
	return hex.EncodeToString([]byte(plainRaw(o)))
}

// storeOf returns the store of some objects, sorted by ID.
func storeOf(l ...api.Object) api.Store {
	var s api.Store
	for _, o := range l {
		s.Items = append(s.Items, api.Item{Id: plainId(o), Kind: o.Kind, Body: o.Body})
	}
	slices.SortFunc(s.Items, func(a, b api.Item) int { return strings.Compare(a.Id, b.Id) })
	s.Items = slices.Compact(s.Items)
	return s
}

func blob(body string) api.Object { return api.Object{Kind: api.Blob, Body: body} }

// treeOf returns a tree with one file for each seed.
func treeOf(seeds ...uint64) api.Object {
	body := ""
	for i, seed := range seeds {
		body += fmt.Sprintf("100644 file%03d\x00", i) + noise(20, 256, seed)
	}
	return api.Object{Kind: api.Tree, Body: body}
}

// commitOf returns a commit with the given message.
func commitOf(message string) api.Object {
	return api.Object{Kind: api.Commits, Body: "tree " + strings.Repeat("0e", 20) + "\nauthor a <a@b> 5 +0000\ncommitter a <a@b> 5 +0000\n\n" + message}
}

// tagOf returns a tag of the given name.
func tagOf(name string) api.Object {
	return api.Object{Kind: api.Tags, Body: "object " + strings.Repeat("0e", 20) + "\ntype blob\ntag " + name + "\ntagger a <a@b> 5 +0000\n\n"}
}

// medley returns n different objects of all kinds, of which many are much alike.
func medley(n int, seed uint64) []api.Object {
	next := numbers(seed)
	files := []uint64{1, 2, 3}
	body := noise(100+next(200), 2+next(40), seed)
	met := make(map[api.Object]bool)
	var l []api.Object
	for len(l) < n {
		o := blob(body)
		switch next(6) {
		case 0:
			files[next(len(files))] = uint64(next(100))
			o = treeOf(files...)
		case 1:
			o = commitOf(fmt.Sprint("message ", next(1000), "\n"))
		case 2:
			o = tagOf(fmt.Sprint("v1.", next(1000)))
		default:
			at := next(len(body))
			body = body[:at] + noise(next(20), 5, uint64(next(1000))) + body[min(len(body), at+next(20)):]
			o = blob(body)
		}
		if next(15) == 0 {
			files = append(files, uint64(next(100)))
			body = noise(100+next(200), 2+next(40), uint64(next(1000)))
		}
		if !met[o] {
			l = append(l, o)
		}
		met[o] = true
	}
	return l
}

// plainPlan follows the definition of a delta plan; the first objects are outside of the pack.
func plainPlan(l []api.Object, first, window, deep int) []api.DeltaPlan {
	var plan []api.DeltaPlan
	for i, o := range l {
		step := api.DeltaPlan{Base: -1}
		best := math.MaxInt
		left := window
		for k := i - 1; k >= 0 && left > 0 && i >= first; k-- {
			if l[k].Kind != o.Kind {
				continue
			}
			left--
			d := delta.Make(l[k].Body, o.Body)
			if plan[k].Deep >= deep || len(d) >= best || 2*len(d) >= len(o.Body) || len(d) < 2 {
				continue
			}
			best = len(d)
			step = api.DeltaPlan{Base: k, Deep: plan[k].Deep + 1}
			if k < first {
				step.Deep = 0
			}
		}
		plan = append(plan, step)
	}
	return plan
}

// expectPlan fails unless Plan answers just want.
func expectPlan(t *testing.T, l []api.Object, window, deep int, want ...api.DeltaPlan) {
	t.Helper()
	if got := pack.Plan(l, window, deep); !slices.Equal(got, want) {
		t.Errorf("Plan of %d objects, %d, %d = %v, want %v", len(l), window, deep, got, want)
	}
}

// P25.1: the plan is that of the definition, for lists of all kinds and for every window and depth.
func TestPlan(t *testing.T) {
	expectPlan(t, nil, 10, 10)
	for seed := range uint64(150) {
		next := numbers(seed)
		l := medley(1+next(40), seed)
		if next(3) == 0 {
			l = append(l, l[next(len(l))], api.Object{Kind: 9, Body: l[0].Body}, api.Object{Kind: 9, Body: l[0].Body + "x"}, api.Object{}, api.Object{Kind: -1})
		}
		for range 6 {
			window, deep := next(12), next(6)
			expectPlan(t, l, window, deep, plainPlan(l, 0, window, deep)...)
		}
	}
	long := medley(200, 7)
	expectPlan(t, long, 64, 16, plainPlan(long, 0, 64, 16)...)
}

// whole0 is the plan of an object that is stored whole.
var whole0 = api.DeltaPlan{Base: -1}

// P25.1: of the shortest deltas the nearest candidate's is chosen, and a shorter one further away ahead of it.
func TestPlanNearest(t *testing.T) {
	a, b, c := noise(60, 256, 1), noise(60, 256, 2), noise(60, 256, 3)
	expectPlan(t, []api.Object{blob(a), blob(a), blob(a)}, 3, 3, whole0, api.DeltaPlan{Base: 0, Deep: 1}, api.DeltaPlan{Base: 1, Deep: 2})
	expectPlan(t, []api.Object{blob(a + "1"), blob(b), blob(a + "2"), blob(a)}, 3, 3, whole0, whole0, api.DeltaPlan{Base: 0, Deep: 1}, api.DeltaPlan{Base: 2, Deep: 2})
	expectPlan(t, []api.Object{blob(a), blob(a + "123"), blob(c), blob(a + "45")}, 3, 3, whole0, api.DeltaPlan{Base: 0, Deep: 1}, whole0, api.DeltaPlan{Base: 1, Deep: 2})
	expectPlan(t, []api.Object{blob(a + b), blob(a + "-" + b), blob(a + b + "+")}, 3, 3, whole0, api.DeltaPlan{Base: 0, Deep: 1}, api.DeltaPlan{Base: 0, Deep: 1})
}

// P25.1: a delta must be shorter than half the body; at just half of it the object is stored whole.
func TestPlanHalf(t *testing.T) {
	base, other := noise(100, 256, 1), noise(100, 256, 2)
	for extra := range 60 {
		body := base[:32] + other[:extra]
		want := whole0
		// The delta has two lengths, a copy of two bytes, and an insertion with a head of one byte.
		if size := 4 + min(extra, 1) + extra; 2*size < 32+extra {
			want = api.DeltaPlan{Base: 0, Deep: 1}
		}
		expectPlan(t, []api.Object{blob(base), blob(body)}, 1, 1, whole0, want)
	}
	expectPlan(t, []api.Object{blob(base), blob(base[:32] + other[:21])}, 1, 1, whole0, api.DeltaPlan{Base: 0, Deep: 1})
	expectPlan(t, []api.Object{blob(base), blob(base[:32] + other[:22])}, 1, 1, whole0, whole0)
	for size := range 12 {
		want := whole0
		if size > 8 {
			want = api.DeltaPlan{Base: 0, Deep: 1}
		}
		expectPlan(t, []api.Object{blob(base[:size]), blob(base[:size])}, 5, 5, whole0, want)
	}
}

// P25.1: the window counts the objects of the same kind, whether they may be bases or not.
func TestPlanWindow(t *testing.T) {
	a, b := noise(60, 256, 1), noise(60, 256, 2)
	one := api.DeltaPlan{Base: 0, Deep: 1}
	other := api.Object{Kind: api.Tags, Body: a}
	apart := []api.Object{blob(a), other, other, other, blob(a)}
	next := api.DeltaPlan{Base: 2, Deep: 1}
	expectPlan(t, apart, 0, 1, whole0, whole0, whole0, whole0, whole0)
	expectPlan(t, apart, 1, 2, whole0, whole0, api.DeltaPlan{Base: 1, Deep: 1}, api.DeltaPlan{Base: 2, Deep: 2}, one)
	expectPlan(t, []api.Object{blob(a), blob(b), blob(a)}, 1, 1, whole0, whole0, whole0)
	expectPlan(t, []api.Object{blob(a), blob(b), blob(a)}, 2, 1, whole0, whole0, one)
	// Too deep to be a base, the second object still fills a window of one.
	expectPlan(t, []api.Object{blob(a), blob(a), blob(a), blob(a)}, 1, 1, whole0, one, whole0, next)
	expectPlan(t, []api.Object{blob(a), blob(a), blob(a), blob(a)}, 2, 1, whole0, one, one, whole0)
}

// P25.1: a window is clamped to 0 and 64, a depth to 0 and 16.
func TestPlanClamped(t *testing.T) {
	var chain, crowd []api.Object
	body := noise(60, 256, 1)
	for i := range 70 {
		chain = append(chain, blob(body))
		if i < 66 {
			crowd = append(crowd, blob(noise(60, 256, uint64(i)+100)))
		}
	}
	crowd = append(crowd, crowd[1], crowd[3])
	for _, window := range []int{64, 65, 100, math.MaxInt} {
		plan := pack.Plan(crowd, window, 1)
		if plan[66].Base != -1 || plan[67].Base != 3 {
			t.Errorf("a window of %d has the bases %d and %d", window, plan[66].Base, plan[67].Base)
		}
	}
	if plan := pack.Plan(crowd, 63, 1); plan[67].Base != -1 {
		t.Errorf("a window of 63 has the base %d", plan[67].Base)
	}
	for _, deep := range []int{16, 17, 100, math.MaxInt} {
		expectPlan(t, chain, 1, deep, pack.Plan(chain, 1, 16)...)
	}
	if plan := pack.Plan(chain, 1, 16); plan[16].Deep != 16 || plan[17] != whole0 {
		t.Errorf("the objects at 16 and 17 of a chain are stored as %v", plan[16:18])
	}
	for _, low := range []int{0, -1, math.MinInt} {
		for i := range chain {
			if pack.Plan(chain, low, 5)[i] != whole0 || pack.Plan(chain, 5, low)[i] != whole0 {
				t.Errorf("an object has a base for a window or a depth of %d", low)
			}
		}
	}
}

// P25.1: objects of which no delta is made, since they are too long, are neither bases nor stored against any.
func TestPlanLong(t *testing.T) {
	most := noise(1<<20, 256, 1)
	expectPlan(t, []api.Object{blob(most), blob(most + "a"), blob(most + "a"), blob(most)}, 3, 3, whole0, whole0, whole0, api.DeltaPlan{Base: 0, Deep: 1})
}

// R1: thousands of objects are planned in good time, whether they are alike or not.
func TestPlanMany(t *testing.T) {
	var unlike, alike []api.Object
	body := noise(1000, 256, 1)
	for i := range uint64(api.MaxPack) {
		unlike = append(unlike, blob(noise(1000, 256, i+2)))
		at := int(i * 37 % 950)
		body = body[:at] + noise(20, 256, i) + body[at+20:]
		alike = append(alike, blob(body))
	}
	for i, step := range pack.Plan(unlike, 64, 16) {
		if step != whole0 {
			t.Fatalf("object %d is stored as %v", i, step)
		}
	}
	deltas := 0
	for _, step := range pack.Plan(alike, 64, 16) {
		if step != whole0 {
			deltas++
		}
	}
	if deltas < api.MaxPack*3/4 {
		t.Errorf("of versions of one text only %d are stored as deltas", deltas)
	}
}

// plainMake encodes a pack as the definition says; the first objects are outside.
func plainMake(l []api.Object, first int, plan []api.DeltaPlan) string {
	var stored []string
	for i := first; i < len(l); i++ {
		base := plan[i].Base
		switch {
		case base < 0:
			stored = append(stored, whole(l[i]))
		case base < first:
			stored = append(stored, far(l[i], l[base]))
		default:
			stored = append(stored, near(l[i], l[base], i-base))
		}
	}
	return packed(stored...)
}

// expectMake fails unless Make answers just this.
func expectMake(t *testing.T, l []api.Object, plan []api.DeltaPlan, want string, e api.Errno) {
	t.Helper()
	if got, gotE := pack.Make(l, plan); got != want || gotE != e {
		t.Errorf("Make of %d objects and a plan of %d = %d bytes, %d, want %d bytes, %d", len(l), len(plan), len(got), gotE, len(want), e)
	}
}

// wholes returns the plan of n objects that are stored whole.
func wholes(n int) []api.DeltaPlan {
	return slices.Repeat([]api.DeltaPlan{whole0}, n)
}

// P25.2: the example, and packs byte by byte.
func TestMake(t *testing.T) {
	expectMake(t, nil, nil, closed("PAK1\x00"), api.OK)
	expectMake(t, []api.Object{blob("hi\n")}, wholes(1), closed("PAK1\x01\x01\x05\x03\x06hi\n"), api.OK)
	two := []api.Object{blob("abcdefgh"), {Kind: api.Tree}, blob("abcdefghi")}
	plan := []api.DeltaPlan{whole0, whole0, {Base: 0, Deep: 1}}
	expectMake(t, two, plan, closed("PAK1\x03\x01\x0a\x08\x10abcdefgh\x02\x01\x00\x11\x02\x08\x06\x0c\x08\x09\x11\x00\x02i"), api.OK)
	for seed := range uint64(60) {
		l := medley(1+int(seed%30), seed)
		for deep := range 5 {
			plan := pack.Plan(l, 10, deep)
			expectMake(t, l, plan, plainMake(l, 0, plan), api.OK)
		}
		expectMake(t, l, wholes(len(l)), plainMake(l, 0, wholes(len(l))), api.OK)
	}
}

// P25.2: a plan may name any earlier object of the same kind, near or far, good or bad.
func TestMakeAnyPlan(t *testing.T) {
	for seed := range uint64(60) {
		next := numbers(seed)
		l := medley(150, seed)
		plan := wholes(len(l))
		for i := range plan {
			if k := next(i + 1); k < i && l[k].Kind == l[i].Kind && plan[k].Deep < 16 {
				plan[i] = api.DeltaPlan{Base: k, Deep: plan[k].Deep + 1}
			}
		}
		s := plainMake(l, 0, plan)
		expectMake(t, l, plan, s, api.OK)
		expectRead(t, s, api.Store{}, l, api.OK)
	}
}

// P25.2: more than MaxPack objects are told ahead of everything else.
func TestMakeLimit(t *testing.T) {
	var l []api.Object
	for i := range api.MaxPack {
		l = append(l, blob(fmt.Sprint(i)))
	}
	expectMake(t, l, wholes(len(l)), plainMake(l, 0, wholes(len(l))), api.OK)
	expectMake(t, append(l, blob("x")), wholes(len(l)+1), "", api.ErrTooLarge)
	expectMake(t, append(l, blob("x")), nil, "", api.ErrTooLarge)
	expectMake(t, append(l, l[0], api.Object{}), nil, "", api.ErrTooLarge)
	if s, e := pack.Thin(l, l[:50]); e != api.OK || s != plainMake(slices.Concat(l[:50], l), 50, wholes(len(l)+50)) {
		t.Errorf("Thin of MaxPack objects = %d bytes, %d", len(s), e)
	}
	expectThin(t, append(l, blob("x")), nil, "", api.ErrTooLarge)
	expectThin(t, append(l, api.Object{}), []api.Object{blob("y")}, "", api.ErrTooLarge)
	if s, e := pack.Thin(l[:1], append(l, blob("x"))); e != api.OK || s != packed(whole(l[0])) {
		t.Errorf("Thin with MaxPack+1 bases = %q, %d", s, e)
	}
}

// P25.2: plans that are not valid, told ahead of the objects' own errors.
func TestMakeWrongPlan(t *testing.T) {
	a, b := blob(noise(50, 256, 1)), blob(noise(60, 256, 2))
	l := []api.Object{a, {Kind: api.Tree}, b, blob("x")}
	good := []api.DeltaPlan{whole0, whole0, {Base: 0, Deep: 1}, {Base: 2, Deep: 2}}
	expectMake(t, l, good, plainMake(l, 0, good), api.OK)
	expectMake(t, l, good[:3], "", api.ErrInvalid)
	expectMake(t, l[:3], good, "", api.ErrInvalid)
	expectMake(t, l, nil, "", api.ErrInvalid)
	expectMake(t, nil, wholes(1), "", api.ErrInvalid)
	rows := []struct {
		at   int
		step api.DeltaPlan
	}{
		{0, api.DeltaPlan{Base: -1, Deep: 1}}, {0, api.DeltaPlan{Base: -1, Deep: -1}}, {0, api.DeltaPlan{Base: -2}}, {0, api.DeltaPlan{Base: 0, Deep: 1}},
		{0, api.DeltaPlan{}}, {0, api.DeltaPlan{Base: 1, Deep: 1}}, {0, api.DeltaPlan{Base: math.MinInt}}, {0, api.DeltaPlan{Base: math.MaxInt, Deep: 1}},
		{1, api.DeltaPlan{Base: 0, Deep: 1}}, {2, api.DeltaPlan{Base: 1, Deep: 1}}, {2, api.DeltaPlan{Base: 2, Deep: 1}}, {2, api.DeltaPlan{Base: 3, Deep: 1}},
		{2, api.DeltaPlan{Base: 0}}, {2, api.DeltaPlan{Base: 0, Deep: 2}}, {2, api.DeltaPlan{Base: 0, Deep: -1}}, {2, api.DeltaPlan{Base: -1, Deep: 1}},
		{3, api.DeltaPlan{Base: 2, Deep: 1}}, {3, api.DeltaPlan{Base: 2, Deep: 3}}, {3, api.DeltaPlan{Base: 0, Deep: 2}}, {3, api.DeltaPlan{Base: 4, Deep: 1}},
	}
	for _, row := range rows {
		plan := slices.Clone(good)
		plan[row.at] = row.step
		expectMake(t, l, plan, "", api.ErrInvalid)
		bad := slices.Clone(l)
		bad[1] = api.Object{Kind: 7}
		expectMake(t, bad, plan, "", api.ErrInvalid)
	}
	kinds := []api.Object{{Kind: 9, Body: a.Body}, {Kind: 9, Body: a.Body}}
	expectMake(t, kinds, []api.DeltaPlan{whole0, {Base: 0, Deep: 1}}, "", api.ErrKind)
	expectMake(t, kinds, []api.DeltaPlan{whole0, {Base: 0, Deep: 2}}, "", api.ErrInvalid)
}

// P25.2: a chain may have the depth MaxChain, and no more.
func TestMakeChain(t *testing.T) {
	var l []api.Object
	var plan []api.DeltaPlan
	for i := range 18 {
		l = append(l, blob(noise(50, 256, 1)+fmt.Sprint(i)))
		plan = append(plan, api.DeltaPlan{Base: i - 1, Deep: i})
	}
	s := plainMake(l[:17], 0, plan[:17])
	expectMake(t, l[:17], plan[:17], s, api.OK)
	expectRead(t, s, api.Store{}, l[:17], api.OK)
	expectMake(t, l, plan, "", api.ErrInvalid)
}

// P25.2: the errors of the objects, for each object in turn.
func TestMakeWrongObjects(t *testing.T) {
	good, bulky := blob("x"), blob(noise(1<<20, 256, 1))
	bare := api.Object{Kind: api.Commits, Body: "tree"}
	rows := []struct {
		l []api.Object
		e api.Errno
	}{
		{[]api.Object{{}}, api.ErrKind},
		{[]api.Object{good, {Kind: 5}}, api.ErrKind},
		{[]api.Object{good, {Kind: -1}, bare}, api.ErrKind},
		{[]api.Object{blob(strings.Repeat("a", 1<<20+1))}, api.ErrTooLarge},
		{[]api.Object{bare, {}}, api.ErrSyntax},
		{[]api.Object{{Kind: api.Tree, Body: "100644 "}, good, good}, api.ErrTruncated},
		{[]api.Object{{Kind: api.Tags}}, api.ErrSyntax},
		{[]api.Object{good, good}, api.ErrDuplicate},
		{[]api.Object{good, good, bulky}, api.ErrDuplicate},
		{[]api.Object{good, {}, good}, api.ErrKind},
		{[]api.Object{{Kind: api.Tree}, blob(""), {Kind: api.Tree}, {}}, api.ErrDuplicate},
		{[]api.Object{bulky}, api.ErrTooLarge},
		{[]api.Object{bulky, {}}, api.ErrTooLarge},
		{[]api.Object{good, bulky, good}, api.ErrTooLarge},
		{[]api.Object{blob(""), {Kind: api.Tree}, blob("x")}, api.OK},
	}
	for _, row := range rows {
		want := ""
		if row.e == api.OK {
			want = plainMake(row.l, 0, wholes(len(row.l)))
		}
		expectMake(t, row.l, wholes(len(row.l)), want, row.e)
		expectThin(t, row.l, []api.Object{good}, want, row.e)
	}
}

// P25.2: it is the compressed data that must not exceed MaxBytes, with nothing to spare.
func TestMakeCompressedLimit(t *testing.T) {
	// Noise is compressed to a little more than itself.
	size := 1<<20 - 2060
	for range 10 {
		size += 1<<20 - len(squeeze.Compress(noise(size, 256, 1)))
	}
	most, beyond := blob(noise(size, 256, 1)), blob(noise(size+1, 256, 1))
	if a, b := len(squeeze.Compress(most.Body)), len(squeeze.Compress(beyond.Body)); a != 1<<20 || b != 1<<20+1 {
		t.Fatalf("the compressed data have %d and %d bytes", a, b)
	}
	expectMake(t, []api.Object{most}, wholes(1), packed(whole(most)), api.OK)
	expectMake(t, []api.Object{beyond}, wholes(1), "", api.ErrTooLarge)
	// A delta may be short where the whole object is not, and long where that is short.
	bulky := noise(1<<20, 256, 2)
	l := []api.Object{blob(bulky[:1<<19]), blob(bulky[:1<<19] + "x" + bulky[:1<<19-1])}
	plan := []api.DeltaPlan{whole0, {Base: 0, Deep: 1}}
	expectMake(t, l, plan, plainMake(l, 0, plan), api.OK)
	expectMake(t, l[1:], wholes(1), "", api.ErrTooLarge)
}

// expectThin fails unless Thin answers just this.
func expectThin(t *testing.T, l, bases []api.Object, want string, e api.Errno) {
	t.Helper()
	if got, gotE := pack.Thin(l, bases); got != want || gotE != e {
		t.Errorf("Thin of %d objects and %d bases = %d bytes, %d, want %d bytes, %d", len(l), len(bases), len(got), gotE, len(want), e)
	}
}

// P25.3: the plan is that of the rule with window 8 and depth 1, over the bases and the objects.
func TestThin(t *testing.T) {
	expectThin(t, nil, nil, closed("PAK1\x00"), api.OK)
	expectThin(t, nil, []api.Object{blob("x")}, closed("PAK1\x00"), api.OK)
	for seed := range uint64(150) {
		next := numbers(seed)
		all := medley(2+next(50), seed)
		first := next(len(all))
		bases, l := slices.Clone(all[:first]), slices.Clone(all[first:])
		if next(2) == 0 {
			bases = append(bases, l[next(len(l))], all[0], all[0])
		}
		all = slices.Concat(bases, l)
		want := plainMake(all, len(bases), plainPlan(all, len(bases), 8, 1))
		expectThin(t, l, bases, want, api.OK)
		expectRead(t, want, storeOf(bases...), l, api.OK)
	}
}

// P25.3: an object against a base may itself be a base, an object against such a one may not; bases are bases however alike they are.
func TestThinDepths(t *testing.T) {
	body := noise(60, 256, 1)
	a, b, c, d := blob(body), blob(body+"1"), blob(body+"12"), blob(body+"123")
	expectThin(t, []api.Object{b}, []api.Object{a}, packed(far(b, a)), api.OK)
	expectThin(t, []api.Object{b, c, d}, []api.Object{a}, packed(far(b, a), near(c, b, 1), near(d, b, 2)), api.OK)
	expectThin(t, []api.Object{b, c, d}, nil, packed(whole(b), near(c, b, 1), near(d, b, 2)), api.OK)
	expectThin(t, []api.Object{d}, []api.Object{a, b, c}, packed(far(d, c)), api.OK)
	expectThin(t, []api.Object{a}, []api.Object{a}, packed(far(a, a)), api.OK)
	expectThin(t, []api.Object{a}, []api.Object{{Kind: api.Tags, Body: tagOf("x").Body}, treeOf(1)}, packed(whole(a)), api.OK)
	// The window holds eight objects of the kind, bases among them.
	others := []api.Object{treeOf(1)}
	for i := range 8 {
		others = append(others, blob(noise(60, 256, uint64(i)+10)))
	}
	expectThin(t, []api.Object{b}, append([]api.Object{a}, others[:8]...), packed(far(b, a)), api.OK)
	expectThin(t, []api.Object{b}, append([]api.Object{a}, others...), packed(whole(b)), api.OK)
	stored := []string{far(b, a)}
	for _, o := range others[1:] {
		stored = append(stored, whole(o))
	}
	expectThin(t, append(append([]api.Object{b}, others[1:]...), c), []api.Object{a}, packed(append(stored, whole(c))...), api.OK)
	expectThin(t, append(append([]api.Object{b}, others[1:8]...), c), []api.Object{a}, packed(append(stored[:8], near(c, b, 8))...), api.OK)
}

// P25.3: the errors of the bases go ahead of those of the objects.
func TestThinWrong(t *testing.T) {
	good, tall := blob("x"), blob(strings.Repeat("a", 1<<20+1))
	bare := api.Object{Kind: api.Commits, Body: "tree"}
	expectThin(t, []api.Object{good, good}, []api.Object{good, {}, bare}, "", api.ErrKind)
	expectThin(t, []api.Object{{}}, []api.Object{good, bare, {}}, "", api.ErrSyntax)
	expectThin(t, []api.Object{{}}, []api.Object{tall}, "", api.ErrTooLarge)
	expectThin(t, nil, []api.Object{tall}, "", api.ErrTooLarge)
	expectThin(t, slices.Repeat([]api.Object{good}, api.MaxPack+1), []api.Object{bare}, "", api.ErrSyntax)
	expectThin(t, slices.Repeat([]api.Object{good}, api.MaxPack+1), []api.Object{good, good}, "", api.ErrTooLarge)
	expectThin(t, []api.Object{good, {}}, []api.Object{good, good}, "", api.ErrKind)
	expectThin(t, []api.Object{good, good}, []api.Object{good, good}, "", api.ErrDuplicate)
}
