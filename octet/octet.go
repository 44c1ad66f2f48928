// Package octet encodes and decodes varints, length-prefixed strings and words, and appends checksums. See shared/doc/01-octet.md.
package octet

import "graftage/api"

const (
	mostDigits = 10 // bytes of the longest varint
	wordSize   = 4
	more       = 128 // the bit that says that a varint goes on
)

// Put returns b followed by the varint encoding of n.
func Put(b string, n uint64) string {
	digits := make([]byte, 0, mostDigits)
	for ; n >= more; n >>= 7 {
		digits = append(digits, byte(n)|more)
	}
	digits = append(digits, byte(n))
	return b + string(digits)
}

// Take decodes the varint at byte offset at and returns its value and the offset just past it.
func Take(s string, at int) (uint64, int, api.Errno) {
	if at < 0 || at > len(s) {
		return 0, 0, api.ErrInvalid
	}
	var n uint64
	for i := range min(mostDigits, len(s)-at) {
		digit := s[at+i]
		if misplaced(digit, i) {
			return 0, 0, api.ErrSyntax
		}
		n |= uint64(digit&^more) << (7 * i)
		if digit < more {
			return n, at + i + 1, api.OK
		}
	}
	// No varint goes on behind a tenth byte, so it is the string that has ended.
	return 0, 0, api.ErrTruncated
}

// misplaced reports whether no varint has the byte digit at position i.
func misplaced(digit byte, i int) bool {
	if i == mostDigits-1 && digit > 1 {
		return true // 64 bits leave room for a single one
	}
	return i > 0 && digit == 0 // a shorter encoding exists
}

// Text returns b followed by the length-prefixed string s.
func Text(b, s string) string {
	return Put(b, uint64(len(s))) + s
}

// TakeText decodes the length-prefixed string at byte offset at and returns it and the offset just past it.
func TakeText(s string, at int) (string, int, api.Errno) {
	size, start, e := Take(s, at)
	if e != api.OK {
		return "", 0, e
	}
	// The limit comes ahead of the conversion: a greater size may not fit an int.
	if size > api.MaxBytes {
		return "", 0, api.ErrTooLarge
	}
	if int(size) > len(s)-start {
		return "", 0, api.ErrTruncated
	}
	end := start + int(size)
	return s[start:end], end, api.OK
}

// Word returns b followed by the word n, most significant byte first.
func Word(b string, n uint32) string {
	word := make([]byte, 0, wordSize)
	for i := range wordSize {
		word = append(word, byte(n>>(24-8*i)))
	}
	return b + string(word)
}

// TakeWord decodes the word at byte offset at and returns it and the offset just past it.
func TakeWord(s string, at int) (uint32, int, api.Errno) {
	if at < 0 || at > len(s) {
		return 0, 0, api.ErrInvalid
	}
	if len(s)-at < wordSize {
		return 0, 0, api.ErrTruncated
	}
	var n uint32
	for i := range wordSize {
		n = n<<8 | uint32(s[at+i])
	}
	return n, at + wordSize, api.OK
}

// halfSteps holds what four steps of the register's shift bring in for each value of its low four bits: two look-ups a byte instead of eight steps.
var halfSteps = [16]uint32{
	0x00000000, 0x1db71064, 0x3b6e20c8, 0x26d930ac,
	0x76dc4190, 0x6b6b51f4, 0x4db26158, 0x5005713c,
	0xedb88320, 0xf00f9344, 0xd6d6a3e8, 0xcb61b38c,
	0x9b64c2b0, 0x86d3d2d4, 0xa00ae278, 0xbdbdf21c,
}

// Sum returns the CRC-32 checksum of s.
func Sum(s string) uint32 {
	register := ^uint32(0)
	for i := range len(s) {
		register ^= uint32(s[i])
		register = register>>4 ^ halfSteps[register&15]
		register = register>>4 ^ halfSteps[register&15]
	}
	return ^register
}

// Seal returns s followed by its checksum.
func Seal(s string) string {
	return Word(s, Sum(s))
}

// Open returns the contents of a sealed string and reports whether the checksum is right.
func Open(s string) (string, bool) {
	end := len(s) - wordSize
	sum, _, e := TakeWord(s, end)
	if e != api.OK || sum != Sum(s[:end]) {
		return "", false
	}
	return s[:end], true
}
