package octet_test

import (
	"encoding/binary"
	"hash/crc32"
	"math"
	"strings"
	"testing"

	"graftage/api"
	"graftage/octet"
)

// numbers returns 0, the greatest value, and the values around every power of two.
func numbers() []uint64 {
	all := []uint64{0, math.MaxUint64}
	for shift := range 64 {
		n := uint64(1) << shift
		all = append(all, n-1, n, n+1)
	}
	return all
}

// noise returns size bytes that depend on seed alone.
func noise(size int, seed uint64) string {
	out := make([]byte, 0, size)
	for range size {
		seed = seed*6364136223846793005 + 1442695040888963407
		out = append(out, byte(seed>>56))
	}
	return string(out)
}

// everyByte returns the bytes 0 to 255.
func everyByte() string {
	var out []byte
	for b := range 256 {
		out = append(out, byte(b))
	}
	return string(out)
}

// P1.1: what Put appends is the varint of n, whatever stands ahead of it.
func TestPut(t *testing.T) {
	for _, b := range []string{"", "ab", "\x80", everyByte()} {
		for _, n := range numbers() {
			want := string(binary.AppendUvarint([]byte(b), n))
			if got := octet.Put(b, n); got != want {
				t.Errorf("Put(%q, %d) = %q, want %q", b, n, got, want)
			}
		}
	}
	if got := octet.Put("", 300); got != "\xac\x02" {
		t.Errorf("Put of 300 = %q", got)
	}
	if got := octet.Put("", math.MaxUint64); len(got) != 10 || got[9] != 1 {
		t.Errorf("Put of the greatest number = %q", got)
	}
}

// P1.1: what Text appends is the length as a varint and the bytes, at any length.
func TestText(t *testing.T) {
	for _, b := range []string{"", "ab", everyByte()} {
		for _, size := range []int{0, 1, 127, 128, 129, 16383, 16384, api.MaxBytes, api.MaxBytes + 1} {
			s := noise(size, 1)
			want := string(binary.AppendUvarint([]byte(b), uint64(size))) + s
			if octet.Text(b, s) != want {
				t.Errorf("Text of %d bytes behind %d bytes is wrong", size, len(b))
			}
		}
	}
	if got := octet.Text("x", "\x00\xff"); got != "x\x02\x00\xff" {
		t.Errorf("Text = %q", got)
	}
}

// P1.1: what Word appends is four bytes, most significant first.
func TestWord(t *testing.T) {
	for _, b := range []string{"", "ab", everyByte()} {
		for _, n := range []uint32{0, 1, 255, 256, 0x01020304, 0x80000000, math.MaxUint32} {
			want := string(binary.BigEndian.AppendUint32([]byte(b), n))
			if got := octet.Word(b, n); got != want {
				t.Errorf("Word(%q, %d) = %q, want %q", b, n, got, want)
			}
		}
	}
	if got := octet.Word("x", 0x01020304); got != "x\x01\x02\x03\x04" {
		t.Errorf("Word = %q", got)
	}
}

// expectTake fails unless Take answers just this.
func expectTake(t *testing.T, s string, at int, n uint64, next int, e api.Errno) {
	t.Helper()
	if gotN, gotNext, gotE := octet.Take(s, at); gotN != n || gotNext != next || gotE != e {
		t.Errorf("Take(%q, %d) = %d, %d, %d, want %d, %d, %d", s, at, gotN, gotNext, gotE, n, next, e)
	}
}

// P1.2: Take answers the value and the offset just past it.
func TestTake(t *testing.T) {
	for _, n := range numbers() {
		code := string(binary.AppendUvarint(nil, n))
		expectTake(t, code, 0, n, len(code), api.OK)
		expectTake(t, "\x80\x80"+code+"\xff\x00", 2, n, 2+len(code), api.OK)
	}
	expectTake(t, "\xac\x02", 0, 300, 2, api.OK)
	expectTake(t, "\xac\x02", 1, 2, 2, api.OK)
	expectTake(t, "\x00", 0, 0, 1, api.OK)
	expectTake(t, "\x00\x00", 0, 0, 1, api.OK)
}

// P1.2: an offset outside of the string is told ahead of everything else.
func TestTakeOffset(t *testing.T) {
	for _, s := range []string{"", "a", "\x80\x00"} {
		for _, at := range []int{-1, math.MinInt, len(s) + 1, len(s) + 10, math.MaxInt} {
			expectTake(t, s, at, 0, 0, api.ErrInvalid)
		}
		expectTake(t, s, len(s), 0, 0, api.ErrTruncated)
	}
}

// P1.2: every proper prefix of an encoding is truncated.
func TestTakeTruncated(t *testing.T) {
	for _, n := range numbers() {
		code := octet.Put("", n)
		for end := range len(code) {
			expectTake(t, code[:end], 0, 0, 0, api.ErrTruncated)
			expectTake(t, "ab"+code[:end], 2, 0, 0, api.ErrTruncated)
		}
	}
}

// P1.2: a zero behind the first byte and a tenth byte above 1 are refused.
func TestTakeSyntax(t *testing.T) {
	for heads := 1; heads < 10; heads++ {
		for _, head := range []string{"\x80", "\x81", "\xff"} {
			s := strings.Repeat(head, heads)
			expectTake(t, s+"\x00", 0, 0, 0, api.ErrSyntax)
			expectTake(t, s+"\x00\x01", 0, 0, 0, api.ErrSyntax)
			expectTake(t, "\x05"+s+"\x00", 1, 0, 0, api.ErrSyntax)
		}
	}
	nine := strings.Repeat("\x80", 9)
	for last := 2; last < 256; last++ {
		expectTake(t, nine+string([]byte{byte(last)}), 0, 0, 0, api.ErrSyntax)
		expectTake(t, nine+string([]byte{byte(last), 1}), 0, 0, 0, api.ErrSyntax)
	}
	expectTake(t, nine+"\x01", 0, 1<<63, 10, api.OK)
	expectTake(t, nine, 0, 0, 0, api.ErrTruncated)
}

// P1.2: all strings of two bytes, each against the definition.
func TestTakeTwoBytes(t *testing.T) {
	for first := range 256 {
		for second := range 256 {
			s := string([]byte{byte(first), byte(second)})
			switch {
			case first < 128:
				expectTake(t, s, 0, uint64(first), 1, api.OK)
			case second == 0:
				expectTake(t, s, 0, 0, 0, api.ErrSyntax)
			case second < 128:
				expectTake(t, s, 0, uint64(first-128+128*second), 2, api.OK)
			default:
				expectTake(t, s, 0, 0, 0, api.ErrTruncated)
			}
		}
	}
}

// expectTakeText fails unless TakeText answers just this; long strings are not printed.
func expectTakeText(t *testing.T, s string, at int, text string, next int, e api.Errno) {
	t.Helper()
	if gotText, gotNext, gotE := octet.TakeText(s, at); gotText != text || gotNext != next || gotE != e {
		t.Errorf("TakeText of %d bytes at %d = %d bytes, %d, %d, want %d bytes, %d, %d", len(s), at, len(gotText), gotNext, gotE, len(text), next, e)
	}
}

// P1.3: TakeText answers the string and the offset just past it.
func TestTakeText(t *testing.T) {
	for _, size := range []int{0, 1, 2, 127, 128, 16384, api.MaxBytes - 1, api.MaxBytes} {
		text := noise(size, 2)
		code := string(binary.AppendUvarint(nil, uint64(size))) + text
		expectTakeText(t, code, 0, text, len(code), api.OK)
		expectTakeText(t, "\xff\x80"+code+"\x00\x80", 2, text, 2+len(code), api.OK)
	}
	expectTakeText(t, "\x00", 0, "", 1, api.OK)
	expectTakeText(t, "\x02a", 1, "", 0, api.ErrTruncated)
}

// P1.3: the errors of Take for the length come first.
func TestTakeTextLength(t *testing.T) {
	expectTakeText(t, "ab", -1, "", 0, api.ErrInvalid)
	expectTakeText(t, "ab", 3, "", 0, api.ErrInvalid)
	expectTakeText(t, "ab", math.MinInt, "", 0, api.ErrInvalid)
	expectTakeText(t, "ab", math.MaxInt, "", 0, api.ErrInvalid)
	expectTakeText(t, "", 0, "", 0, api.ErrTruncated)
	expectTakeText(t, "ab", 2, "", 0, api.ErrTruncated)
	expectTakeText(t, "\x80", 0, "", 0, api.ErrTruncated)
	expectTakeText(t, "\x81\x00a", 0, "", 0, api.ErrSyntax)
	expectTakeText(t, strings.Repeat("\xff", 9)+"\x02", 0, "", 0, api.ErrSyntax)
}

// P1.3: a length beyond the limit is told ahead of missing bytes.
func TestTakeTextLimits(t *testing.T) {
	full := noise(api.MaxBytes+1, 3)
	limit := octet.Put("", api.MaxBytes)
	beyond := octet.Put("", api.MaxBytes+1)
	expectTakeText(t, limit+full[1:], 0, full[1:], len(limit)+api.MaxBytes, api.OK)
	expectTakeText(t, limit+full[2:], 0, "", 0, api.ErrTruncated)
	expectTakeText(t, limit, 0, "", 0, api.ErrTruncated)
	expectTakeText(t, beyond+full, 0, "", 0, api.ErrTooLarge)
	expectTakeText(t, beyond, 0, "", 0, api.ErrTooLarge)
	for _, n := range []uint64{1 << 31, 1 << 32, 1<<32 + 1, 1<<63 - 1, 1 << 63, 1<<63 + 1, math.MaxUint64} {
		expectTakeText(t, octet.Put("", n)+"ab", 0, "", 0, api.ErrTooLarge)
	}
	for _, size := range []int{1, 2, 127, 128} {
		code := octet.Text("", noise(size, 4))
		expectTakeText(t, code[:len(code)-1], 0, "", 0, api.ErrTruncated)
	}
}

// expectTakeWord fails unless TakeWord answers just this.
func expectTakeWord(t *testing.T, s string, at int, n uint32, next int, e api.Errno) {
	t.Helper()
	if gotN, gotNext, gotE := octet.TakeWord(s, at); gotN != n || gotNext != next || gotE != e {
		t.Errorf("TakeWord(%q, %d) = %d, %d, %d, want %d, %d, %d", s, at, gotN, gotNext, gotE, n, next, e)
	}
}

// P1.4: TakeWord answers the word, the offset just past it, and its errors in their order.
func TestTakeWord(t *testing.T) {
	expectTakeWord(t, "\x01\x02\x03\x04", 0, 0x01020304, 4, api.OK)
	expectTakeWord(t, "ab\xff\xfe\xfd\xfcz", 2, 0xfffefdfc, 6, api.OK)
	expectTakeWord(t, "\x80\x00\x00\x00\x01", 1, 1, 5, api.OK)
	for size := range 5 {
		s := strings.Repeat("\xff", size)
		for _, at := range []int{-1, -4, math.MinInt, size + 1, math.MaxInt, math.MaxInt - 3} {
			expectTakeWord(t, s, at, 0, 0, api.ErrInvalid)
		}
		expectTakeWord(t, s, size, 0, 0, api.ErrTruncated)
	}
	for size := range 4 {
		expectTakeWord(t, strings.Repeat("\x01", size), 0, 0, 0, api.ErrTruncated)
	}
	expectTakeWord(t, "\x01\x02\x03\x04", 1, 0, 0, api.ErrTruncated)
}

// P1.5: Sum is the CRC-32 of the definition.
func TestSum(t *testing.T) {
	if octet.Sum("123456789") != 0xcbf43926 || octet.Sum("") != 0 {
		t.Error("the examples' checksums are wrong")
	}
	for b := range 256 {
		s := string([]byte{byte(b)})
		if octet.Sum(s) != slowSum(s) {
			t.Errorf("Sum(%q) = %x, want %x", s, octet.Sum(s), slowSum(s))
		}
	}
	for size := range 300 {
		s := noise(size, uint64(size))
		if octet.Sum(s) != slowSum(s) || octet.Sum(s) != crc32.ChecksumIEEE([]byte(s)) {
			t.Errorf("Sum of %d bytes = %x, want %x", size, octet.Sum(s), slowSum(s))
		}
	}
}

// slowSum follows the definition bit by bit.
func slowSum(s string) uint32 {
	register := ^uint32(0)
	for _, b := range []byte(s) {
		register ^= uint32(b)
		for range 8 {
			out := register & 1
			register >>= 1
			if out == 1 {
				register ^= 0xedb88320
			}
		}
	}
	return ^register
}

// P1.5: Seal appends the checksum as a word, and Open takes it off again.
func TestSealOpen(t *testing.T) {
	for _, s := range []string{"", "a", "\x00", "\x00\x00\x00\x00", "123456789", everyByte(), noise(api.MaxBytes+5, 5)} {
		sealed := octet.Seal(s)
		if sealed != string(binary.BigEndian.AppendUint32([]byte(s), slowSum(s))) {
			t.Errorf("Seal of %d bytes is wrong", len(s))
		}
		if got, ok := octet.Open(sealed); got != s || !ok {
			t.Errorf("Open of %d sealed bytes = %d bytes, %t", len(s), len(got), ok)
		}
	}
	if octet.Seal("123456789") != "123456789\xcb\xf4\x39\x26" || octet.Seal("") != "\x00\x00\x00\x00" {
		t.Error("the examples' seals are wrong")
	}
}

// P1.5: Open refuses what Seal doesn't answer, and then answers nothing.
func TestOpenWrong(t *testing.T) {
	wrong := []string{"", "a", "\x00", "\x00\x00", "\x00\x00\x00", "abcd", "\x00\x00\x00\x01", "\x00\x00\x00\x00\x00", "123456789\x26\x39\xf4\xcb"}
	sealed := octet.Seal("graft")
	for i := range len(sealed) {
		wrong = append(wrong, sealed[:i], sealed[i+1:])
		for bit := range 8 {
			wrong = append(wrong, flipped(sealed, 8*i+bit, 1))
		}
	}
	wrong = append(wrong, sealed+"\x00", "\x00"+sealed, octet.Seal(sealed)[1:])
	for _, s := range wrong {
		if got, ok := octet.Open(s); got != "" || ok {
			t.Errorf("Open(%q) = %q, %t", s, got, ok)
		}
	}
}

// flipped returns s with the bits of pattern flipped from bit at on, the least significant bit of each byte first.
func flipped(s string, at int, pattern uint32) string {
	out := []byte(s)
	for i := range 32 {
		if pattern>>i&1 == 1 {
			out[(at+i)/8] ^= 1 << ((at + i) % 8)
		}
	}
	return string(out)
}

// P1.6: what was appended is decoded, whatever bytes stand around it.
func TestRoundTrip(t *testing.T) {
	around := []string{"", "\x00", "\x80", "\xff\xff\xff\xff", everyByte()}
	for _, ahead := range around {
		for _, behind := range around {
			for _, n := range numbers() {
				code := octet.Put(ahead, n)
				expectTake(t, code+behind, len(ahead), n, len(code), api.OK)
				code = octet.Word(ahead, uint32(n>>7))
				expectTakeWord(t, code+behind, len(ahead), uint32(n>>7), len(code), api.OK)
			}
			for size := range 200 {
				text := noise(size, uint64(size))
				code := octet.Text(ahead, text)
				expectTakeText(t, code+behind, len(ahead), text, len(code), api.OK)
			}
		}
	}
}

// P1.6: what is decoded is encoded as just the bytes that it was decoded from.
func TestReencode(t *testing.T) {
	for seed := range 20000 {
		s := noise(14, uint64(seed))
		if seed%2 == 0 {
			s = flipped(s, 0, 0x80808080|uint32(seed)) // longer varints than chance makes
		}
		for at := range len(s) {
			if n, next, e := octet.Take(s, at); e == api.OK && octet.Put(s[:at], n) != s[:next] {
				t.Fatalf("Take(%q, %d) = %d, which is encoded otherwise", s, at, n)
			}
			if text, next, e := octet.TakeText(s, at); e == api.OK && octet.Text(s[:at], text) != s[:next] {
				t.Fatalf("TakeText(%q, %d) = %q, which is encoded otherwise", s, at, text)
			}
			if n, next, e := octet.TakeWord(s, at); e == api.OK && octet.Word(s[:at], n) != s[:next] {
				t.Fatalf("TakeWord(%q, %d) = %d, which is encoded otherwise", s, at, n)
			}
		}
	}
}

// P1.7: a burst of at most 32 bits, wherever it is, changes the checksum.
func TestBurstErrors(t *testing.T) {
	for _, size := range []int{4, 5, 16, 61} {
		s := noise(size, uint64(size))
		sum := octet.Sum(s)
		for at := range 8*size - 31 {
			patterns := []uint32{1, 3, 1 << 31, 1<<31 | 1, math.MaxUint32, 0xedb88320}
			for i := range 100 {
				patterns = append(patterns, slowSum(octet.Put("", uint64(i*size+at))))
			}
			for _, pattern := range patterns {
				if pattern != 0 && octet.Sum(flipped(s, at, pattern)) == sum {
					t.Fatalf("Sum misses the burst %x at bit %d of %d bytes", pattern, at, size)
				}
			}
		}
	}
}
