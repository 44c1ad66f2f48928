package delta_test

import (
	"encoding/binary"
	"math"
	"slices"
	"strings"
	"testing"

	"graftage/api"
	"graftage/delta"
)

// noise returns size bytes out of letters, at most 256, that depend on seed alone.
func noise(size, letters int, seed uint64) string {
	out := make([]byte, 0, size)
	for range size {
		seed = seed*6364136223846793005 + 1442695040888963407
		out = append(out, byte((seed>>40)%uint64(letters)))
	}
	return string(out)
}

// varint returns the varint of n.
func varint(n int) string {
	return string(binary.AppendUvarint(nil, uint64(n)))
}

// sizes returns what a delta between texts of these sizes begins with.
func sizes(base, target int) string {
	return varint(base) + varint(target)
}

// insert returns the instruction that inserts text.
func insert(text string) string {
	return varint(2*len(text)) + text
}

// copied returns the instruction that copies n bytes of the base from offset at on.
func copied(n, at int) string {
	return varint(2*n+1) + varint(at)
}

// plain makes the delta as the definition says, trying every offset of base at every offset of s.
func plain(base, s string) string {
	out, pending := sizes(len(base), len(s)), ""
	flush := func() {
		if pending != "" {
			out += insert(pending)
		}
		pending = ""
	}
	for at := 0; at < len(s); {
		from, size := plainRun(base, s[at:])
		if size >= 8 {
			flush()
			out += copied(size, from)
			at += size
			continue
		}
		pending += s[at : at+1]
		at++
		if len(pending) == 1024 {
			flush()
		}
	}
	flush()
	return out
}

// plainRun returns the first offset in base of the longest run that rest begins with, and its size.
func plainRun(base, rest string) (int, int) {
	from, size := 0, 0
	for at := range len(base) {
		n := 0
		for at+n < len(base) && n < len(rest) && base[at+n] == rest[n] {
			n++
		}
		if n > size {
			from, size = at, n
		}
	}
	return from, size
}

// pair is a base with a target.
type pair struct{ base, target string }

// samples returns pairs of many sizes and of all kinds of likeness.
func samples() []pair {
	long := noise(3000, 256, 1)
	all := []pair{
		{"", ""}, {"", "ab"}, {"ab", ""}, {"abcdefgh", "abcdefgh"}, {long, long}, {long, long[1:]}, {long, "x" + long + "y"},
		{long, long[1500:] + long[:1500]}, {long[:2000], long}, {"", long}, {long, ""}, {long, noise(3000, 256, 2)},
		{strings.Repeat("a", 500), strings.Repeat("a", 300)}, {strings.Repeat("a", 300), strings.Repeat("a", 500)},
		{strings.Repeat("a", 500), strings.Repeat("aaaaaaaaaaaab", 30)}, {strings.Repeat("abc", 90), strings.Repeat("abcabcabcab", 30)},
	}
	for _, letters := range []int{1, 2, 3, 5} {
		for size := 1; size < 700; size += 1 + size/4 {
			all = append(all, pair{noise(size, letters, uint64(size)), noise(700/size+size, letters, uint64(size)+5)})
		}
	}
	for seed := range uint64(80) {
		base := noise(400, 2+int(seed), seed)
		all = append(all, pair{base, patchwork(base, seed)})
	}
	return all
}

// patchwork returns a string of pieces of base with new bytes between them.
func patchwork(base string, seed uint64) string {
	s := ""
	for i := range uint64(30) {
		numbers := noise(4, 256, 1000*seed+i)
		from := (int(numbers[0])*256 + int(numbers[1])) % len(base)
		size := min(int(numbers[2])%40, len(base)-from)
		s += base[from:from+size] + noise(int(numbers[3])%9, 256, seed+i)
	}
	return s
}

// expectMake fails unless Make answers just want; long strings are not printed.
func expectMake(t *testing.T, base, s, want string) {
	t.Helper()
	got := delta.Make(base, s)
	if got == want {
		return
	}
	if len(want) < 40 {
		t.Errorf("Make(%.40q, %.40q) = %.40q, want %q", base, s, got, want)
		return
	}
	t.Errorf("Make of bases of %d and %d bytes = %d bytes, which are not the %d bytes wanted", len(base), len(s), len(got), len(want))
}

// P4.1: the examples, and what the greedy algorithm says of any two strings.
func TestMake(t *testing.T) {
	expectMake(t, "abcdefgh", "abcdefgh", "\x08\x08\x11\x00")
	expectMake(t, "", "ab", "\x00\x02\x04ab")
	expectMake(t, "", "", "\x00\x00")
	expectMake(t, "abcdefghij", "", "\x0a\x00")
	for _, p := range samples() {
		expectMake(t, p.base, p.target, plain(p.base, p.target))
	}
}

// P4.1: strings beyond the limit have no delta.
func TestMakeLimit(t *testing.T) {
	most := noise(api.MaxBytes, 256, 3)
	expectMake(t, most+"a", "a", "")
	expectMake(t, "a", most+"a", "")
	expectMake(t, most+"a", most+"a", "")
	expectMake(t, most+"a", "", "")
	expectMake(t, most, most, sizes(len(most), len(most))+copied(len(most), 0))
	expectMake(t, most, "ab", sizes(len(most), 2)+insert("ab"))
	want := sizes(0, len(most))
	for at := 0; at < len(most); at += 1024 {
		want += insert(most[at : at+1024])
	}
	expectMake(t, "", most, want)
}

// P4.1: a run is copied if it has at least 8 bytes, wherever it stands.
func TestMakeLeastRun(t *testing.T) {
	expectMake(t, "abcdefg", "abcdefg", "\x07\x07"+insert("abcdefg"))
	expectMake(t, "abcdefgh", "abcdefg", "\x08\x07"+insert("abcdefg"))
	expectMake(t, "abcdefg", "abcdefgh", "\x07\x08"+insert("abcdefgh"))
	expectMake(t, "abcdefghi", "abcdefghi", "\x09\x09"+copied(9, 0))
	expectMake(t, "xabcdefgh", "abcdefghy", "\x09\x09"+copied(8, 1)+insert("y"))
	expectMake(t, "xabcdefgy", "abcdefgy-xabcdefg", "\x09\x11"+copied(8, 1)+insert("-")+copied(8, 0))
	expectMake(t, "abcdefgh", "-abcdefghabcdefgh-", "\x08\x12"+insert("-")+copied(8, 0)+copied(8, 0)+insert("-"))
	expectMake(t, "abcdefgh", "abcdefghabcdefg", "\x08\x0f"+copied(8, 0)+insert("abcdefg"))
}

// P4.1: the longest run is taken, and its first occurrence.
func TestMakeChoice(t *testing.T) {
	expectMake(t, "abcdefgh.abcdefghi.abcdefghi", "abcdefghi", "\x1c\x09"+copied(9, 9))
	expectMake(t, "abcdefghi.abcdefghij.abcdefgh", "abcdefgh", "\x1d\x08"+copied(8, 0))
	expectMake(t, "abcdefgh.abcdefghi.abcdefghij", "abcdefghijk", "\x1d\x0b"+copied(10, 19)+insert("k"))
	expectMake(t, "aaaaaaaaaaaa", "aaaaaaaa", "\x0c\x08"+copied(8, 0))
	expectMake(t, "baaaaaaaa", "aaaaaaaaaaaaaaaa", "\x09\x10"+copied(8, 1)+copied(8, 1))
	expectMake(t, "aaaaaaaab", "aaaaaaaaab", "\x09\x0a"+copied(8, 0)+insert("ab"))
	// The rule is greedy: a longer run one byte further on is not waited for.
	expectMake(t, "xabcdef.abcdefghijk", "xabcdefghijk", "\x13\x0c"+insert("x")+copied(11, 8))
	expectMake(t, "xabcdefgh.abcdefghijkl", "xabcdefghijkl", "\x16\x0d"+copied(9, 0)+insert("ijkl"))
}

// P4.1: a literal instruction has at most 1024 bytes, and a copy ends it earlier.
func TestMakeLiterals(t *testing.T) {
	base := "abcdefgh"
	for _, size := range []int{1, 63, 64, 1023, 1024} {
		s := noise(size, 256, 4)
		expectMake(t, base, s, sizes(8, size)+insert(s))
		expectMake(t, base, s+base+s, sizes(8, 2*size+8)+insert(s)+copied(8, 0)+insert(s))
	}
	s := noise(2049, 256, 5)
	expectMake(t, base, s[:1025], sizes(8, 1025)+insert(s[:1024])+insert(s[1024:1025]))
	expectMake(t, base, s[:2048], sizes(8, 2048)+insert(s[:1024])+insert(s[1024:2048]))
	expectMake(t, base, s, sizes(8, 2049)+insert(s[:1024])+insert(s[1024:2048])+insert(s[2048:]))
	expectMake(t, base, s[:1025]+base, sizes(8, 1033)+insert(s[:1024])+insert(s[1024:1025])+copied(8, 0))
}

// P4.1: a base that repeats itself all over takes no longer than another, and no other answer.
func TestMakeRepetitive(t *testing.T) {
	base := strings.Repeat("abcdefgh", api.MaxBytes/8)
	count := api.MaxBytes / 9
	target := strings.Repeat("abcdefghi", count)
	expectMake(t, base, target, sizes(len(base), len(target))+strings.Repeat(copied(8, 0)+insert("i"), count))
	zeros := strings.Repeat("\x00", api.MaxBytes)
	target = strings.Repeat(zeros[:20]+"\x01", 1000)
	expectMake(t, zeros, target, sizes(len(zeros), len(target))+strings.Repeat(copied(20, 0)+insert("\x01"), 1000))
	expectMake(t, zeros, zeros[:5000], sizes(len(zeros), 5000)+copied(5000, 0))
}

// expectApply fails unless Apply answers just this; long strings are not printed.
func expectApply(t *testing.T, base, s, want string, e api.Errno) {
	t.Helper()
	if got, gotE := delta.Apply(base, s); got != want || gotE != e {
		t.Errorf("Apply(%.40q, %.40q) = %d bytes %.40q, %d, want %d bytes %.40q, %d", base, s, len(got), got, gotE, len(want), want, e)
	}
}

// P4.2: Apply follows the instructions, whoever made them.
func TestApply(t *testing.T) {
	expectApply(t, "", "\x00\x00", "", api.OK)
	expectApply(t, "abc", "\x03\x00", "", api.OK)
	expectApply(t, "", "\x00\x02\x04ab", "ab", api.OK)
	expectApply(t, "abcdefgh", "\x08\x08\x11\x00", "abcdefgh", api.OK)
	expectApply(t, "abc", "\x03\x05"+copied(1, 2)+copied(3, 0)+copied(1, 1), "cabcb", api.OK)
	expectApply(t, "abc", "\x03\x05"+insert("x")+insert("y")+copied(2, 1)+insert("z"), "xybcz", api.OK)
	text := noise(1024, 256, 6)
	expectApply(t, "", sizes(0, 1024)+insert(text), text, api.OK)
	// The base has no limit, the target has.
	large := noise(api.MaxBytes+5, 256, 7)
	expectApply(t, large, sizes(len(large), api.MaxBytes)+copied(api.MaxBytes, 5), large[5:], api.OK)
	expectApply(t, large, sizes(len(large), len(large))+copied(len(large), 0), "", api.ErrTooLarge)
}

// P4.2: the errors of the two lengths, in their order.
func TestApplyLengths(t *testing.T) {
	huge := strings.Repeat("\xff", 9) + "\x01"
	expectApply(t, "abcd", "\x05\x00", "", api.ErrDelta)
	for _, s := range []string{"", "\x80", "\x04", "\x04\x80", "\x05", "\x05\x80"} {
		expectApply(t, "abcd", s, "", api.ErrTruncated)
	}
	for _, s := range []string{"\x84\x00\x00", "\x04\x80\x00", "\x05\x80\x00", strings.Repeat("\xff", 9) + "\x02\x00", huge + "\x80\x00"} {
		expectApply(t, "abcd", s, "", api.ErrSyntax)
	}
	beyond := varint(api.MaxBytes + 1)
	expectApply(t, "abcd", "\x03"+beyond, "", api.ErrDelta)
	expectApply(t, "abcd", huge+huge, "", api.ErrDelta)
	expectApply(t, "", "\x04\x00", "", api.ErrDelta)
	expectApply(t, "abcd", "\x00\x00", "", api.ErrDelta)
	expectApply(t, "abcd", "\x04"+beyond, "", api.ErrTooLarge)
	expectApply(t, "abcd", "\x04"+huge, "", api.ErrTooLarge)
	expectApply(t, "abcd", "\x04"+varint(api.MaxBytes), "", api.ErrTruncated)
}

// wrongSteps returns instructions that are wrong behind a base of 4 bytes and a target of 6 of them.
func wrongSteps() map[string]api.Errno {
	huge := strings.Repeat("\xff", 9) + "\x01"
	text := noise(1025, 256, 8)
	return map[string]api.Errno{
		"":                                api.ErrTruncated,
		"\x80":                            api.ErrTruncated,
		"\x84\x00":                        api.ErrSyntax,
		"\x00":                            api.ErrSyntax,
		"\x01":                            api.ErrSyntax,
		"\x01\x00":                        api.ErrSyntax,
		huge:                              api.ErrTruncated, // a copy without its offset
		huge + "\x00":                     api.ErrDelta,
		huge[:1] + "\x00":                 api.ErrSyntax,
		varint(2 << 61):                   api.ErrSyntax,
		insert(text):                      api.ErrSyntax,
		varint(2 * 1025):                  api.ErrSyntax,
		"\x0e":                            api.ErrSyntax, // longer than the target, and cut short
		insert("abcdefg"):                 api.ErrSyntax,
		"\x0c":                            api.ErrTruncated,
		"\x0cabcde":                       api.ErrTruncated,
		insert("abcde"):                   api.ErrTruncated,
		insert("abcde") + insert("fg"):    api.ErrSyntax,
		insert("abcde") + "\x04":          api.ErrSyntax,
		"\x09":                            api.ErrTruncated,
		"\x09\x80":                        api.ErrTruncated,
		"\x09\x81\x00":                    api.ErrSyntax,
		copied(4, 1):                      api.ErrDelta,
		copied(5, 0):                      api.ErrDelta,
		copied(1, 4):                      api.ErrDelta,
		copied(1, math.MaxInt):            api.ErrDelta,
		"\x03" + huge:                     api.ErrDelta,
		copied(7, 0):                      api.ErrDelta, // longer than base and target
		copied(math.MaxInt>>1, 0):         api.ErrDelta,
		copied(4, 0):                      api.ErrTruncated,
		copied(4, 0) + copied(3, 0):       api.ErrSyntax,
		copied(4, 0) + copied(3, 2):       api.ErrDelta,
		copied(4, 0) + "\x07":             api.ErrTruncated,
		copied(4, 0) + copied(2, 2) + "a": api.ErrSyntax,
		insert("abcdef") + "\x00":         api.ErrSyntax,
		insert("abcdef") + "\x80":         api.ErrSyntax,
		insert("abcdef") + copied(1, 0):   api.ErrSyntax,
	}
}

// P4.2: the errors of an instruction, in their order, and of what remains.
func TestApplySteps(t *testing.T) {
	for steps, e := range wrongSteps() {
		expectApply(t, "abcd", "\x04\x06"+steps, "", e)
	}
	text := noise(1025, 256, 8)
	expectApply(t, "", sizes(0, 1025)+insert(text), "", api.ErrSyntax)
	expectApply(t, "", sizes(0, 1025)+insert(text[:1024])+insert(text[1024:]), text, api.OK)
	expectApply(t, "", "\x00\x00\x00", "", api.ErrSyntax)
	expectApply(t, "a", "\x01\x00\x03\x00", "", api.ErrSyntax)
	expectApply(t, "", "\x00\x01"+copied(1, 0), "", api.ErrDelta)
}

// plainTake decodes the varint at the start of s and returns it and the rest.
func plainTake(s string) (int, string, api.Errno) {
	n, size := binary.Uvarint([]byte(s))
	switch {
	case size == 0:
		return 0, "", api.ErrTruncated
	case size < 0 || n > math.MaxInt || size > 1 && s[size-1] == 0:
		return 0, "", api.ErrSyntax
	}
	return int(n), s[size:], api.OK
}

// plainApply follows P4.2 sentence by sentence, and collects the copies.
func plainApply(base, s string) (string, []api.Run, api.Errno) {
	baseSize, s, e := plainTake(s)
	if e != api.OK {
		return "", nil, e
	}
	size, s, e := plainTake(s)
	if e != api.OK {
		return "", nil, e
	}
	if baseSize != len(base) {
		return "", nil, api.ErrDelta
	}
	if size > api.MaxBytes {
		return "", nil, api.ErrTooLarge
	}
	out := ""
	var runs []api.Run
	for len(out) < size {
		var head, at int
		if head, s, e = plainTake(s); e != api.OK {
			return "", nil, e
		}
		n := head / 2
		if n == 0 || head%2 == 0 && n > 1024 {
			return "", nil, api.ErrSyntax
		}
		if head%2 == 1 {
			if at, s, e = plainTake(s); e != api.OK {
				return "", nil, e
			}
			if at > len(base) || n > len(base)-at {
				return "", nil, api.ErrDelta
			}
		}
		if len(out)+n > size {
			return "", nil, api.ErrSyntax
		}
		if head%2 == 1 {
			runs = append(runs, api.Run{A: at, B: len(out), N: n})
			out += base[at : at+n]
			continue
		}
		if n > len(s) {
			return "", nil, api.ErrTruncated
		}
		out, s = out+s[:n], s[n:]
	}
	if s != "" {
		return "", nil, api.ErrSyntax
	}
	return out, runs, api.OK
}

// P4.2, P4.4: mangled deltas, each against the definition.
func TestApplyMangled(t *testing.T) {
	for seed := range uint64(300) {
		base := noise(20+int(seed)%40, 256, seed)
		made := delta.Make(base, base[3:15]+noise(5, 256, seed+1)+base[int(seed)%8:])
		for at := range made {
			for _, b := range []byte(noise(6, 256, seed+uint64(at))) {
				b := string([]byte{b % byte(1+seed%255)})
				for _, s := range []string{made[:at] + b + made[at+1:], made[:at] + b + made[at:], made[:at] + made[at+1:]} {
					want, runs, e := plainApply(base, s)
					expectApply(t, base, s, want, e)
					if s[0] == byte(len(base)) {
						expectCopies(t, s, runs, e)
					}
				}
			}
		}
	}
}

// P4.3: Sizes answers both lengths, whatever follows, or its errors in their order.
func TestSizes(t *testing.T) {
	huge := strings.Repeat("\xff", 9) + "\x01"
	beyond := varint(api.MaxBytes + 1)
	rows := []struct {
		s            string
		base, target int
		e            api.Errno
	}{
		{"\x00\x00", 0, 0, api.OK},
		{"\x08\x09", 8, 9, api.OK},
		{"\xac\x02\x05\x00\x00\x80", 300, 5, api.OK},
		{sizes(api.MaxBytes, api.MaxBytes), api.MaxBytes, api.MaxBytes, api.OK},
		{"", 0, 0, api.ErrTruncated},
		{"\x80", 0, 0, api.ErrTruncated},
		{"\x05", 0, 0, api.ErrTruncated},
		{"\x05\x80", 0, 0, api.ErrTruncated},
		{"\x80\x00\x00", 0, 0, api.ErrSyntax},
		{"\x05\x80\x00", 0, 0, api.ErrSyntax},
		{beyond, 0, 0, api.ErrTruncated},
		{beyond + "\x80\x00", 0, 0, api.ErrSyntax},
		{beyond + "\x00", 0, 0, api.ErrTooLarge},
		{"\x00" + beyond, 0, 0, api.ErrTooLarge},
		{huge + huge, 0, 0, api.ErrTooLarge},
		{"\x00" + huge, 0, 0, api.ErrTooLarge},
		{huge + "\x00", 0, 0, api.ErrTooLarge},
	}
	for _, row := range rows {
		if base, target, e := delta.Sizes(row.s); base != row.base || target != row.target || e != row.e {
			t.Errorf("Sizes(%q) = %d, %d, %d, want %d, %d, %d", row.s, base, target, e, row.base, row.target, row.e)
		}
	}
}

// expectCopies fails unless Copies answers just this.
func expectCopies(t *testing.T, s string, want []api.Run, e api.Errno) {
	t.Helper()
	if got, gotE := delta.Copies(s); !slices.Equal(got, want) || gotE != e {
		t.Errorf("Copies(%.40q) = %v, %d, want %v, %d", s, got, gotE, want, e)
	}
}

// P4.4: Copies answers a run for each copy, and none for the literals.
func TestCopies(t *testing.T) {
	expectCopies(t, "\x00\x00", nil, api.OK)
	expectCopies(t, "\x09\x02\x04ab", nil, api.OK)
	expectCopies(t, "\x08\x08\x11\x00", []api.Run{{A: 0, B: 0, N: 8}}, api.OK)
	expectCopies(t, "\x03\x09"+insert("xy")+copied(1, 2)+copied(3, 0)+insert("z")+copied(2, 1), []api.Run{{A: 2, B: 2, N: 1}, {A: 0, B: 3, N: 3}, {A: 1, B: 7, N: 2}}, api.OK)
	most := sizes(api.MaxBytes, api.MaxBytes)
	expectCopies(t, most+copied(api.MaxBytes, 0), []api.Run{{A: 0, B: 0, N: api.MaxBytes}}, api.OK)
	expectCopies(t, sizes(api.MaxBytes, 1)+copied(1, api.MaxBytes-1), []api.Run{{A: api.MaxBytes - 1, B: 0, N: 1}}, api.OK)
}

// P4.4: the errors of Sizes, then those of Apply.
func TestCopiesWrong(t *testing.T) {
	beyond := varint(api.MaxBytes + 1)
	expectCopies(t, "", nil, api.ErrTruncated)
	expectCopies(t, "\x05", nil, api.ErrTruncated)
	expectCopies(t, "\x05\x80\x00", nil, api.ErrSyntax)
	expectCopies(t, beyond+"\x01"+copied(1, 0), nil, api.ErrTooLarge)
	expectCopies(t, "\x01"+beyond, nil, api.ErrTooLarge)
	for steps, e := range wrongSteps() {
		expectCopies(t, "\x04\x06"+steps, nil, e)
		expectCopies(t, "\x04\x07"+copied(1, 0)+steps, nil, e)
	}
}

// P4.5: what Make answers leads Apply back to the target.
func TestRoundTrip(t *testing.T) {
	pairs := samples()
	for _, letters := range []int{1, 2, 256} {
		most := noise(api.MaxBytes, letters, 9)
		pairs = append(pairs, pair{most, most[:9000] + "!" + most[9000:api.MaxBytes-1]}, pair{most, noise(api.MaxBytes, letters, 10)}, pair{"", most})
	}
	for _, p := range pairs {
		made := delta.Make(p.base, p.target)
		expectApply(t, p.base, made, p.target, api.OK)
		if base, target, e := delta.Sizes(made); base != len(p.base) || target != len(p.target) || e != api.OK {
			t.Errorf("Sizes of a delta of %d and %d bytes = %d, %d, %d", len(p.base), len(p.target), base, target, e)
		}
	}
}

// P4.6: the copied ranges are the same in base and target, and follow each other in the target.
func TestCopiesAgree(t *testing.T) {
	for _, p := range samples() {
		runs, e := delta.Copies(delta.Make(p.base, p.target))
		if e != api.OK {
			t.Errorf("Copies of a delta of %d and %d bytes = %d", len(p.base), len(p.target), e)
		}
		end := 0
		for _, run := range runs {
			if run.B < end || run.N < 8 || p.base[run.A:run.A+run.N] != p.target[run.B:run.B+run.N] {
				t.Errorf("Copies of a delta of %d and %d bytes has %v behind %d", len(p.base), len(p.target), run, end)
			}
			end = run.B + run.N
		}
	}
}

// P4.7: a string against itself is one copy, and against nothing none.
func TestDeltaSize(t *testing.T) {
	for size := 8; size < 300; size++ {
		for _, letters := range []int{1, 2, 256} {
			s := noise(size, letters, uint64(size))
			expectMake(t, s, s, sizes(size, size)+copied(size, 0))
			expectCopies(t, delta.Make("", s), nil, api.OK)
		}
	}
}
