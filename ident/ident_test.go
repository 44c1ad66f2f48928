package ident_test

import (
	"crypto/hmac"
	"crypto/sha256"
	"encoding/hex"
	"slices"
	"strings"
	"testing"

	"graftage/api"
	"graftage/ident"
)

// noise returns size bytes that depend on seed alone.
func noise(size int, seed uint64) string {
	out := make([]byte, 0, size)
	for range size {
		seed = seed*6364136223846793005 + 1442695040888963407
		out = append(out, byte(seed>>56))
	}
	return string(out)
}

// filled returns the ID that begins with head and goes on with zeros.
func filled(head string) string {
	return head + strings.Repeat("0", 40-len(head))
}

// notIds returns strings that are not object IDs, each for a reason of its own.
func notIds() []string {
	wrong := []string{"", "a", strings.Repeat("a", 39), strings.Repeat("a", 41), strings.Repeat("a", 64), strings.Repeat("a", 80)}
	for _, b := range []byte{'A', 'F', 'g', 'G', '/', ':', '`', '@', 0, 128, 255, ' ', '\n'} {
		for _, at := range []int{0, 20, 39} {
			id := []byte(strings.Repeat("a", 40))
			id[at] = b
			wrong = append(wrong, string(id))
		}
	}
	return wrong
}

// P2.1: Digest is SHA-256, at every length around the blocks' edges, and Of is the first half of its digits.
func TestDigestOf(t *testing.T) {
	messages := []string{"", "abc", strings.Repeat("\x00", 64), strings.Repeat("\xff", 119), noise(api.MaxBytes+3, 1)}
	for size := range 300 {
		messages = append(messages, noise(size, uint64(size)))
	}
	for _, s := range messages {
		want := sha256.Sum256([]byte(s))
		if ident.Digest(s) != string(want[:]) {
			t.Errorf("Digest of %d bytes is wrong", len(s))
		}
		if ident.Of(s) != hex.EncodeToString(want[:20]) {
			t.Errorf("Of %d bytes = %q, want %x", len(s), ident.Of(s), want[:20])
		}
	}
	if !strings.HasPrefix(ident.Of(""), "e3b0c442") || !strings.HasPrefix(ident.Of("abc"), "ba7816bf") {
		t.Error("the examples' hashes are wrong")
	}
}

// P2.1: a long message, as the standard publishes it.
func TestDigestMillion(t *testing.T) {
	want := "cdc76e5c9914fb9281a1c7e284d73e67f1809a48a497200e046d39ccc7112cd0"
	if got := ident.Hex(ident.Digest(strings.Repeat("a", 1000000))); got != want {
		t.Errorf("Digest = %s, want %s", got, want)
	}
}

// P2.2: Is tells IDs from all else.
func TestIs(t *testing.T) {
	for _, id := range []string{strings.Repeat("0", 40), strings.Repeat("f", 40), filled("0123456789abcdef"), ident.Of("x")} {
		if !ident.Is(id) {
			t.Errorf("Is(%q) = false", id)
		}
	}
	for _, id := range notIds() {
		if ident.Is(id) {
			t.Errorf("Is(%q) = true", id)
		}
	}
	for b := range 256 {
		id := string([]byte{byte(b)}) + strings.Repeat("0", 39)
		if want := strings.Contains("0123456789abcdef", id[:1]); ident.Is(id) != want {
			t.Errorf("Is(%q) = %t", id, !want)
		}
	}
}

// P2.2: Raw answers the 20 bytes of an ID, and nothing for all else.
func TestRaw(t *testing.T) {
	id := "000f10a0ff0123456789abcdef99fedcba987654"
	want := "\x00\x0f\x10\xa0\xff\x01\x23\x45\x67\x89\xab\xcd\xef\x99\xfe\xdc\xba\x98\x76\x54"
	if raw, ok := ident.Raw(id); raw != want || !ok {
		t.Errorf("Raw = %q, %t", raw, ok)
	}
	for _, id := range notIds() {
		if raw, ok := ident.Raw(id); raw != "" || ok {
			t.Errorf("Raw(%q) = %q, %t", id, raw, ok)
		}
	}
}

// P2.2: Hex takes any length, the high half of each byte first.
func TestHex(t *testing.T) {
	if got := ident.Hex("\x00\x0f\x10\xa9\xff"); got != "000f10a9ff" {
		t.Errorf("Hex = %q", got)
	}
	for size := range 70 {
		s := noise(size, uint64(size))
		if got := ident.Hex(s); got != hex.EncodeToString([]byte(s)) {
			t.Errorf("Hex(%q) = %q", s, got)
		}
	}
}

// P2.3: Short keeps at least seven digits, and one more than any other ID shares.
func TestShort(t *testing.T) {
	id := filled("0123456789abcdef")
	for _, c := range []struct {
		ids  []string
		want int
	}{
		{nil, 7},
		{[]string{}, 7},
		{[]string{id, id}, 7},
		{[]string{filled("f")}, 7},
		{[]string{filled("012345f")}, 7},
		{[]string{filled("0123456f")}, 8},
		{[]string{filled("01234567f")}, 9},
		{[]string{filled("01234567f"), filled("f"), filled("0123456f")}, 9},
		{[]string{filled("f"), id, filled("0123456789a")}, 12},
		{[]string{id[:38] + "10"}, 39},
		{[]string{id[:39] + "1"}, 40},
		{[]string{id[:39] + "1", id, id[:39] + "2"}, 40},
	} {
		if got := ident.Short(c.ids, id); got != id[:c.want] {
			t.Errorf("Short(%q) = %q, want %d digits", c.ids, got, c.want)
		}
	}
}

// P2.3: what is no ID is ignored among the others and has no abbreviation itself.
func TestShortNoIds(t *testing.T) {
	id := filled("0123456789abcdef")
	others := []string{"", id[:7], id[:39], id + "0", id[:39] + "g", id[:39] + "A", strings.ToUpper(id), id[:8] + strings.Repeat("x", 32)}
	if got := ident.Short(others, id); got != id[:7] {
		t.Errorf("Short among strings that are no IDs = %q", got)
	}
	for _, wrong := range notIds() {
		if got := ident.Short([]string{id, wrong}, wrong); got != "" {
			t.Errorf("Short of %q = %q", wrong, got)
		}
	}
}

// expectFind fails unless Find answers just this.
func expectFind(t *testing.T, ids []string, head, id string, e api.Errno) {
	t.Helper()
	if gotId, gotE := ident.Find(ids, head); gotId != id || gotE != e {
		t.Errorf("Find(%q, %q) = %q, %d, want %q, %d", ids, head, gotId, gotE, id, e)
	}
}

// P2.4: Find answers the one ID that begins with head, however often it stands there.
func TestFind(t *testing.T) {
	a, b := filled("0123456789"), filled("0123456f")
	ids := []string{"", b, a, b, "z", a}
	for size := 8; size <= 40; size++ {
		expectFind(t, ids, a[:size], a, api.OK)
		expectFind(t, ids, b[:size], b, api.OK)
	}
	for size := 4; size <= 7; size++ {
		expectFind(t, ids, a[:size], "", api.ErrAmbiguous)
		expectFind(t, []string{a, a}, a[:size], a, api.OK)
	}
	for _, head := range []string{"ffff", "1234", filled("01234567"), a[:39] + "1"} {
		expectFind(t, ids, head, "", api.ErrNotFound)
		expectFind(t, nil, head, "", api.ErrNotFound)
	}
	expectFind(t, []string{a, filled("f"), a, b}, "0123", "", api.ErrAmbiguous)
}

// P2.4: what is no abbreviation is a syntax error, whatever the IDs are.
func TestFindSyntax(t *testing.T) {
	id := filled("")
	wrong := []string{"", "0", "000", id + "0", "000g", "000A", "A000", "00 0", "000\n", "\xff\xff\xff\xff", id[:39] + "G"}
	for _, head := range wrong {
		for _, ids := range [][]string{nil, {id}, {id, filled("0001")}, {head}} {
			expectFind(t, ids, head, "", api.ErrSyntax)
		}
	}
}

// P2.4: elements that are no IDs are ignored: they are neither found nor do they make a head ambiguous.
func TestFindNoIds(t *testing.T) {
	id := filled("abcd")
	ids := []string{"abcd", id[:39], id + "0", id[:39] + "g", id[:39] + "A"}
	expectFind(t, ids, "abcd", "", api.ErrNotFound)
	expectFind(t, append(ids, id), "abcd", id, api.OK)
	expectFind(t, append([]string{id}, ids...), "abcd", id, api.OK)
}

// P2.5: Mac is HMAC-SHA-256, for keys around the block size too.
func TestMac(t *testing.T) {
	want := "f7bc83f430538424b13298e6aa6fb143ef4d59a14946175997479dbc2d1a3cd8"
	if got := ident.Mac("key", "The quick brown fox jumps over the lazy dog"); got != want {
		t.Errorf("Mac = %s, want %s", got, want)
	}
	for keySize := range 140 {
		key := noise(keySize, uint64(keySize))
		for _, size := range []int{0, 1, 55, 56, 64, 1000} {
			s := noise(size, uint64(size))
			m := hmac.New(sha256.New, []byte(key))
			m.Write([]byte(s))
			if got := ident.Mac(key, s); got != hex.EncodeToString(m.Sum(nil)) {
				t.Errorf("Mac of a key of %d bytes and %d bytes = %s", keySize, size, got)
			}
		}
	}
}

// crowd returns IDs of which many share long heads, with strings that are no IDs among them.
func crowd(seed uint64) []string {
	root := ident.Of(noise(8, seed))
	ids := []string{"", root[:39], strings.ToUpper(root), root}
	for i := range 40 {
		other := ident.Of(noise(8, seed+uint64(i)+1))
		ids = append(ids, other, root[:i]+other[i:])
	}
	return ids
}

// P2.6: Find resolves what Short answers, and a digit less is ambiguous where more than seven are kept.
func TestAbbreviations(t *testing.T) {
	for seed := range 20 {
		ids := crowd(uint64(seed) * 1000)
		for _, id := range append(ids, ident.Of("newcomer")) {
			if !ident.Is(id) {
				continue
			}
			short := ident.Short(ids, id)
			all := append(slices.Clone(ids), id)
			if !strings.HasPrefix(id, short) || len(short) < api.MaxKept {
				t.Fatalf("Short of %s = %q", id, short)
			}
			expectFind(t, all, short, id, api.OK)
			if len(short) > api.MaxKept {
				expectFind(t, all, short[:len(short)-1], "", api.ErrAmbiguous)
			}
		}
	}
}

// P2.7: Raw and Hex are each other's inverse.
func TestRoundTrip(t *testing.T) {
	raws := []string{strings.Repeat("\x00", 20), strings.Repeat("\xff", 20), strings.Repeat("\x0f", 20), strings.Repeat("\xf0", 20)}
	for seed := range 500 {
		raws = append(raws, noise(20, uint64(seed)))
	}
	for _, raw := range raws {
		id := ident.Hex(raw)
		if got, ok := ident.Raw(id); got != raw || !ok || !ident.Is(id) {
			t.Errorf("Raw(%q) = %q, %t, want %q", id, got, ok, raw)
		}
	}
	for seed := range 500 {
		id := ident.Of(noise(9, uint64(seed)))
		if raw, ok := ident.Raw(id); len(raw) != 20 || !ok || ident.Hex(raw) != id {
			t.Errorf("Raw(%q) = %q, %t", id, raw, ok)
		}
	}
}

// R3: the lists that are handed in stay as they are, their spare capacity too.
func TestListsStay(t *testing.T) {
	backing := append(crowd(7), "spare", "spare")
	want := slices.Clone(backing)
	ids := backing[: len(backing)-2 : len(backing)]
	ident.Short(ids, ids[3])
	ident.Find(ids, ids[3][:8])
	if !slices.Equal(backing, want) {
		t.Error("a list has been changed")
	}
}
