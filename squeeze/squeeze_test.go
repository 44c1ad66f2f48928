package squeeze_test

import (
	"encoding/binary"
	"math"
	"strings"
	"testing"

	"graftage/api"
	"graftage/squeeze"
)

// noise returns size bytes out of letters, at most 256, that depend on seed alone.
func noise(size, letters int, seed uint64) string {
	out := make([]byte, 0, size)
	for range size {
		seed = seed*6364136223846793005 + 1442695040888963407
		out = append(out, byte((seed>>40)%uint64(letters)))
	}
	return string(out)
}

// varint returns the varint of n.
func varint(n int) string {
	return string(binary.AppendUvarint(nil, uint64(n)))
}

// literal returns the literal piece of text.
func literal(text string) string {
	return varint(2*len(text)) + text
}

// copied returns the copy piece of n bytes from back bytes before the end.
func copied(n, back int) string {
	return varint(2*n+1) + varint(back)
}

// plain compresses s as the definition says, trying every distance at every offset.
func plain(s string) string {
	out, pending := varint(len(s)), ""
	flush := func() {
		if pending != "" {
			out += literal(pending)
		}
		pending = ""
	}
	for at := 0; at < len(s); {
		size, back := plainMatch(s, at)
		if size >= 4 {
			flush()
			out += copied(size, back)
			at += size
			continue
		}
		pending += s[at : at+1]
		at++
		if len(pending) == 1024 {
			flush()
		}
	}
	flush()
	return out
}

// plainMatch returns the size of the longest match at offset at, of at most 258 bytes, and its distance, the nearest of several.
func plainMatch(s string, at int) (int, int) {
	size, back := 0, 0
	for distance := 1; distance <= 4096 && distance <= at; distance++ {
		n := 0
		for n < 258 && at+n < len(s) && s[at+n] == s[at+n-distance] {
			n++
		}
		if n > size {
			size, back = n, distance
		}
	}
	return size, back
}

// samples returns strings of many sizes and of all kinds of repetition.
func samples() []string {
	all := []string{"", "a", "ab", "aaaa", "aaaaa", "abcabcabcx", strings.Repeat("ab", 700), strings.Repeat("abcdefg", 300)}
	for _, letters := range []int{1, 2, 3, 4, 26, 256} {
		for size := 1; size < 2600; size += 1 + size/3 {
			all = append(all, noise(size, letters, uint64(size)))
		}
	}
	for seed := range uint64(60) {
		all = append(all, patchwork(seed))
	}
	return all
}

// patchwork returns a string of pieces that are new or stood earlier, near and far.
func patchwork(seed uint64) string {
	s := noise(300, 256, seed)
	for i := range uint64(40) {
		numbers := noise(4, 256, 1000*seed+i)
		from := (int(numbers[0])*256 + int(numbers[1])) % len(s)
		size := min(int(numbers[2])*2, len(s)-from)
		s += s[from:from+size] + noise(int(numbers[3])%9, 256, seed+i)
	}
	return s
}

// expectCompress fails unless Compress answers just want; long strings are not printed.
func expectCompress(t *testing.T, s, want string) {
	t.Helper()
	got := squeeze.Compress(s)
	if got == want {
		return
	}
	if len(want) < 40 {
		t.Errorf("Compress(%q) = %q, want %q", s, got, want)
		return
	}
	t.Errorf("Compress of %d bytes = %d bytes, which are not the %d bytes wanted", len(s), len(got), len(want))
}

// P3.1: the examples, and what the greedy rule says of any string.
func TestCompress(t *testing.T) {
	expectCompress(t, "", "\x00")
	expectCompress(t, "abcabcabcx", "\x0a\x06abc\x0d\x03\x02x")
	for _, s := range samples() {
		expectCompress(t, s, plain(s))
	}
}

// P3.1: a match has at least 4 bytes, and may end where the string ends.
func TestCompressLeastMatch(t *testing.T) {
	expectCompress(t, "abcxabc", "\x07"+literal("abcxabc"))
	expectCompress(t, "abcdabcd", "\x08"+literal("abcd")+copied(4, 4))
	expectCompress(t, "abcdxabcdy", "\x0a"+literal("abcdx")+copied(4, 5)+literal("y"))
	expectCompress(t, "abcxabcy", "\x08"+literal("abcxabcy"))
	expectCompress(t, "aaaa", "\x04"+literal("aaaa"))
	expectCompress(t, "aaaaa", "\x05"+literal("a")+copied(4, 1))
}

// P3.1: a match has at most 258 bytes.
func TestCompressMostMatch(t *testing.T) {
	head := noise(300, 256, 1)
	for size := 256; size <= 258; size++ {
		expectCompress(t, head+head[:size], varint(300+size)+literal(head)+copied(size, 300))
	}
	expectCompress(t, head+head[:259], varint(559)+literal(head)+copied(258, 300)+literal(head[258:259]))
	expectCompress(t, head+head[:262], varint(562)+literal(head)+copied(258, 300)+copied(4, 300))
	expectCompress(t, strings.Repeat("a", 259), varint(259)+literal("a")+copied(258, 1))
	expectCompress(t, strings.Repeat("a", 262), varint(262)+literal("a")+copied(258, 1)+literal("aaa"))
	expectCompress(t, strings.Repeat("a", 263), varint(263)+literal("a")+copied(258, 1)+copied(4, 1))
}

// P3.1: a match starts at most 4096 bytes back; the offsets inside of a match are looked at, too.
func TestCompressReach(t *testing.T) {
	for _, distance := range []int{1000, 4095, 4096} {
		head := noise(distance, 256, 2)
		expectCompress(t, head+head[:9], varint(distance+9)+literals(head)+copied(9, distance))
	}
	head := noise(4097, 256, 2)
	expectCompress(t, head+head[:9], varint(4106)+literals(head+head[:9]))
	expectCompress(t, "abcdefgh-abcdefgh+cdefgh", "\x18"+literal("abcdefgh-")+copied(8, 9)+literal("+")+copied(6, 7))
}

// literals returns the literal pieces of text.
func literals(text string) string {
	out := ""
	for at := 0; at < len(text); at += 1024 {
		out += literal(text[at:min(at+1024, len(text))])
	}
	return out
}

// P3.1: the longest match is taken, however far it is, and the nearest one of several.
func TestCompressChoice(t *testing.T) {
	head := "abcdefX" + "abcdY" + "abcZ"
	expectCompress(t, "abcdefXabcdYabcdef", "\x12"+literal("abcdefX")+copied(4, 7)+literal("Y")+copied(6, 12))
	expectCompress(t, "abcdXabcdYabcd", "\x0e"+literal("abcdX")+copied(4, 5)+literal("Y")+copied(4, 5))
	expectCompress(t, head+"abcdef", "\x16"+literal("abcdefX")+copied(4, 7)+literal("YabcZ")+copied(6, 16))
	// The rule is greedy: a longer match one byte further on is not waited for.
	expectCompress(t, "xabcd.abcdefgh.xabcdefgh", plain("xabcd.abcdefgh.xabcdefgh"))
	expectCompress(t, "xabcd.abcdefgh.xabcdefgh", "\x18"+literal("xabcd.")+copied(4, 5)+literal("efgh.")+copied(5, 15)+copied(4, 10))
}

// P3.1: a literal piece ends as soon as it holds 1024 bytes, and a copy piece ends one ahead of that.
func TestCompressLiterals(t *testing.T) {
	for _, size := range []int{1, 63, 64, 1023, 1024, 1025, 2047, 2048, 2049, 4096} {
		s := noise(size, 256, 3)
		expectCompress(t, s, varint(size)+literals(s))
	}
	head := noise(1024, 256, 4)
	for _, size := range []int{1023, 1024} {
		s := head[:size]
		expectCompress(t, s+s[:7]+"!", varint(size+8)+literal(s)+copied(7, size)+literal("!"))
	}
	tail := noise(1030, 256, 5)
	expectCompress(t, head[:500]+head[:4]+tail, varint(1534)+literal(head[:500])+copied(4, 500)+literals(tail))
}

// expectDecompress fails unless Decompress answers just this; long strings are not printed.
func expectDecompress(t *testing.T, s string, most int, want string, e api.Errno) {
	t.Helper()
	if got, gotE := squeeze.Decompress(s, most); got != want || gotE != e {
		t.Errorf("Decompress of %d bytes %.40q, %d = %d bytes %.40q, %d, want %d bytes %.40q, %d", len(s), s, most, len(got), got, gotE, len(want), want, e)
	}
}

// P3.2: Decompress follows the pieces, whoever made them.
func TestDecompress(t *testing.T) {
	expectDecompress(t, "\x00", 0, "", api.OK)
	expectDecompress(t, "\x00", math.MaxInt, "", api.OK)
	expectDecompress(t, "\x0a\x06abc\x0d\x03\x02x", 10, "abcabcabcx", api.OK)
	expectDecompress(t, "\x03\x02a\x02b\x02c", 3, "abc", api.OK)
	expectDecompress(t, "\x0a"+literal("ab")+copied(4, 2)+copied(4, 5), 10, "abababbaba", api.OK)
	long := noise(5000, 256, 6)
	expectDecompress(t, varint(5000)+literal(long), 5000, long, api.OK)
	expectDecompress(t, varint(10000)+literal(long)+copied(5000, 5000), 10000, long+long, api.OK)
	expectDecompress(t, varint(5259)+literal(long)+copied(259, 5000), 6000, long+long[:259], api.OK)
	expectDecompress(t, varint(api.MaxBytes)+literal("ab")+copied(api.MaxBytes-2, 2), api.MaxBytes, strings.Repeat("ab", api.MaxBytes/2), api.OK)
}

// P3.2: the length's errors, and a length beyond what is allowed, come first.
func TestDecompressLength(t *testing.T) {
	endless := strings.Repeat("\xff", 9)
	expectDecompress(t, "", 0, "", api.ErrTruncated)
	expectDecompress(t, "", -1, "", api.ErrTruncated)
	expectDecompress(t, "\x80", 9, "", api.ErrTruncated)
	expectDecompress(t, "\x80\x00", 9, "", api.ErrSyntax)
	expectDecompress(t, "\x80\x00", -1, "", api.ErrSyntax)
	expectDecompress(t, endless+"\x02", 9, "", api.ErrSyntax)
	expectDecompress(t, "\x00", -1, "", api.ErrTooLarge)
	expectDecompress(t, "\x00", math.MinInt, "", api.ErrTooLarge)
	expectDecompress(t, "\x02\x04ab", 1, "", api.ErrTooLarge)
	expectDecompress(t, "\x02", 1, "", api.ErrTooLarge)
	expectDecompress(t, "\x02\x00", 1, "", api.ErrTooLarge)
	expectDecompress(t, "\x01\x02a", 0, "", api.ErrTooLarge)
	expectDecompress(t, "\x01\x02a", 1, "a", api.OK)
	expectDecompress(t, endless+"\x01", math.MaxInt, "", api.ErrTooLarge)
	expectDecompress(t, varint(math.MaxInt), math.MaxInt-1, "", api.ErrTooLarge)
}

// P3.2: the errors of a piece, in their order.
func TestDecompressPieces(t *testing.T) {
	wrong := []struct {
		pieces string // behind the length, which is 9
		e      api.Errno
	}{
		{"", api.ErrTruncated},
		{"\x80", api.ErrTruncated},
		{"\x84\x00", api.ErrSyntax},
		{strings.Repeat("\xff", 9) + "\x01", api.ErrSyntax},
		{"\x00", api.ErrSyntax},
		{"\x01\x01", api.ErrSyntax},
		{"\x00" + literal("abcdefghi"), api.ErrSyntax},
		{literal("abcdefghij"), api.ErrSyntax},
		{"\x14", api.ErrSyntax},
		{"\x12", api.ErrTruncated},
		{"\x12abcdefgh", api.ErrTruncated},
		{"\x06ab", api.ErrTruncated},
		{literal("abcdefgh"), api.ErrTruncated},
		{literal("abcde") + literal("fghij"), api.ErrSyntax},
		{literal("a") + copied(3, 1), api.ErrSyntax},
		{literal("a") + "\x07", api.ErrSyntax},
		{literal("a") + copied(9, 1), api.ErrSyntax},
		{literal("a") + "\x13", api.ErrSyntax},
		{literal("a") + "\x11", api.ErrTruncated},
		{literal("a") + "\x11\x80", api.ErrTruncated},
		{literal("a") + "\x11\x81\x00", api.ErrSyntax},
		{literal("a") + copied(8, 0), api.ErrSyntax},
		{literal("a") + copied(8, 2), api.ErrSyntax},
		{literal("a") + copied(8, math.MaxInt), api.ErrSyntax},
		{literal("a") + "\x11" + strings.Repeat("\xff", 9) + "\x01", api.ErrSyntax},
		{copied(4, 0), api.ErrSyntax},
		{copied(4, 1), api.ErrSyntax},
		{literal("a") + copied(4, 1), api.ErrTruncated},
		{literal("abcdefghi") + "\x00", api.ErrSyntax},
		{literal("abcdefghi") + literal("j"), api.ErrSyntax},
		{literal("a") + copied(8, 1) + "\x80", api.ErrSyntax},
	}
	for _, w := range wrong {
		expectDecompress(t, "\x09"+w.pieces, 9, "", w.e)
		expectDecompress(t, "\x09"+w.pieces, math.MaxInt, "", w.e)
	}
	expectDecompress(t, "\x00\x00", 9, "", api.ErrSyntax)
	expectDecompress(t, "\x00\x02a", 9, "", api.ErrSyntax)
	expectDecompress(t, "\x04\x02a\x07\x01", 4, "", api.ErrSyntax)
}

// plainTake decodes the varint at the start of s and returns it and the rest.
func plainTake(s string) (int, string, api.Errno) {
	n, size := binary.Uvarint([]byte(s))
	switch {
	case size == 0:
		return 0, "", api.ErrTruncated
	case size < 0 || n > math.MaxInt || size > 1 && s[size-1] == 0:
		return 0, "", api.ErrSyntax
	}
	return int(n), s[size:], api.OK
}

// plainDecompress follows P3.2 sentence by sentence.
func plainDecompress(s string, most int) (string, api.Errno) {
	size, s, e := plainTake(s)
	if e != api.OK {
		return "", e
	}
	if size > most {
		return "", api.ErrTooLarge
	}
	out := ""
	for len(out) < size {
		var head, back int
		if head, s, e = plainTake(s); e != api.OK {
			return "", e
		}
		n := head / 2
		if n == 0 || head%2 == 1 && n < 4 || len(out)+n > size {
			return "", api.ErrSyntax
		}
		if head%2 == 0 {
			if n > len(s) {
				return "", api.ErrTruncated
			}
			out, s = out+s[:n], s[n:]
			continue
		}
		if back, s, e = plainTake(s); e != api.OK {
			return "", e
		}
		if back == 0 || back > len(out) {
			return "", api.ErrSyntax
		}
		for range n {
			out += out[len(out)-back:][:1]
		}
	}
	if s != "" {
		return "", api.ErrSyntax
	}
	return out, api.OK
}

// P3.2: mangled strings, each against the definition.
func TestDecompressMangled(t *testing.T) {
	for seed := range uint64(300) {
		packed := squeeze.Compress(noise(1+int(seed)%90, 1+int(seed)%5, seed))
		for at := range packed {
			for _, b := range []byte(noise(6, 256, seed+uint64(at))) {
				b := string([]byte{b % byte(1+seed%255)})
				for _, s := range []string{packed[:at] + b + packed[at+1:], packed[:at] + b + packed[at:], packed[:at] + packed[at+1:]} {
					want, e := plainDecompress(s, 100)
					expectDecompress(t, s, 100, want, e)
				}
			}
		}
	}
}

// P3.2: a few bytes that declare more than any memory holds are an error like any other.
func TestDecompressHuge(t *testing.T) {
	const huge = 1 << 60
	start := varint(huge) + literal("a")
	expectDecompress(t, start, huge, "", api.ErrTruncated)
	expectDecompress(t, start+copied(huge-1, 2), huge, "", api.ErrSyntax)
	expectDecompress(t, start+copied(huge, 1), huge, "", api.ErrSyntax)
	expectDecompress(t, start+copied(huge-2, 1), huge, "", api.ErrTruncated)
	expectDecompress(t, start+copied(huge-1, 1)+"x", huge, "", api.ErrSyntax)
	expectDecompress(t, varint(huge)+varint(2*huge), huge, "", api.ErrTruncated)
	if got, e := squeeze.Decompress(start+copied(huge-1, 1), huge); got != "" || e == api.OK {
		t.Error("a string beyond every bound is answered")
	}
}

// P3.3: Bound is n + n/64 + 16, and 16 for negative n.
func TestBound(t *testing.T) {
	want := map[int]int{
		math.MinInt: 16, -64: 16, -1: 16, 0: 16, 1: 17, 63: 79, 64: 81, 65: 82, 127: 144, 128: 146,
		api.MaxBytes: api.MaxBytes + 16384 + 16, 1<<31 - 1: 1<<31 - 1 + 1<<25 - 1 + 16,
	}
	for n, bound := range want {
		if got := squeeze.Bound(n); got != bound {
			t.Errorf("Bound(%d) = %d, want %d", n, got, bound)
		}
	}
}

// expectWhole fails unless s comes back from its compressed form, and that is within the bound.
func expectWhole(t *testing.T, s string) string {
	t.Helper()
	packed := squeeze.Compress(s)
	expectDecompress(t, packed, len(s), s, api.OK)
	if len(packed) > squeeze.Bound(len(s)) {
		t.Errorf("Compress of %d bytes has %d bytes", len(s), len(packed))
	}
	return packed
}

// P3.4: what was compressed comes back, and is at most Bound bytes long.
func TestRoundTrip(t *testing.T) {
	for _, s := range samples() {
		packed := expectWhole(t, s)
		expectDecompress(t, packed, math.MaxInt, s, api.OK)
		expectDecompress(t, packed, len(s)-1, "", api.ErrTooLarge)
	}
	for _, letters := range []int{1, 2, 256} {
		expectWhole(t, noise(api.MaxBytes, letters, 7))
	}
	for _, step := range []string{"aaaab", "abcdx", "\x00\x00\x00\x00\x00\x00\x00\x01"} {
		expectWhole(t, strings.Repeat(step, api.MaxBytes/len(step)))
	}
}

// P3.4: one literal byte ahead of each shortest match is the worst that can happen, and it is within the bound.
func TestBoundHolds(t *testing.T) {
	for gap := 1; gap < 70; gap++ {
		s := noise(4000, 256, 8)
		for i := range 200 {
			s += noise(gap, 256, uint64(1000*gap+i)) + s[10*i:10*i+4]
		}
		expectWhole(t, s)
	}
}

// P3.4: no compressed string with a byte more or cut short is one.
func TestDecompressCut(t *testing.T) {
	for _, s := range []string{"", "a", "abcabcabcx", strings.Repeat("a", 600), noise(200, 256, 9), patchwork(1)} {
		packed := squeeze.Compress(s)
		for end := range len(packed) {
			if got, e := squeeze.Decompress(packed[:end], len(s)); got != "" || e == api.OK {
				t.Errorf("Decompress of %d of %d bytes = %d bytes, %d", end, len(packed), len(got), e)
			}
		}
		for b := range 256 {
			expectDecompress(t, packed+string([]byte{byte(b)}), len(s), "", api.ErrSyntax)
		}
	}
}

// P3.4: a run of equal bytes shrinks to little.
func TestCompressRuns(t *testing.T) {
	for n := 5; n < 2000; n++ {
		s := strings.Repeat(string([]byte{byte(n)}), n)
		packed := expectWhole(t, s)
		if len(packed) > 16+n/64 {
			t.Errorf("a run of %d bytes is compressed to %d", n, len(packed))
		}
	}
}
