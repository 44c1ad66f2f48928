package ident

import (
	"math/bits"
	"strings"
)

const (
	blockSize = 64
	rounds    = 64
)

// roundWords holds the constants K(0) to K(63).
var roundWords = [rounds]uint32{
	0x428a2f98, 0x71374491, 0xb5c0fbcf, 0xe9b5dba5, 0x3956c25b, 0x59f111f1, 0x923f82a4, 0xab1c5ed5,
	0xd807aa98, 0x12835b01, 0x243185be, 0x550c7dc3, 0x72be5d74, 0x80deb1fe, 0x9bdc06a7, 0xc19bf174,
	0xe49b69c1, 0xefbe4786, 0x0fc19dc6, 0x240ca1cc, 0x2de92c6f, 0x4a7484aa, 0x5cb0a9dc, 0x76f988da,
	0x983e5152, 0xa831c66d, 0xb00327c8, 0xbf597fc7, 0xc6e00bf3, 0xd5a79147, 0x06ca6351, 0x14292967,
	0x27b70a85, 0x2e1b2138, 0x4d2c6dfc, 0x53380d13, 0x650a7354, 0x766a0abb, 0x81c2c92e, 0x92722c85,
	0xa2bfe8a1, 0xa81a664b, 0xc24b8b70, 0xc76c51a3, 0xd192e819, 0xd6990624, 0xf40e3585, 0x106aa070,
	0x19a4c116, 0x1e376c08, 0x2748774c, 0x34b0bcb5, 0x391c0cb3, 0x4ed8aa4a, 0x5b9cca4f, 0x682e6ff3,
	0x748f82ee, 0x78a5636f, 0x84c87814, 0x8cc70208, 0x90befffa, 0xa4506ceb, 0xbef9a3f7, 0xc67178f2,
}

// Digest returns the SHA-256 hash of s.
func Digest(s string) string {
	state := [8]uint32{
		0x6a09e667, 0xbb67ae85, 0x3c6ef372, 0xa54ff53a,
		0x510e527f, 0x9b05688c, 0x1f83d9ab, 0x5be0cd19,
	}
	// Only the last block is copied for its padding, not the whole message.
	whole := len(s) - len(s)%blockSize
	state = absorb(state, s[:whole])
	state = absorb(state, pad(s[whole:], len(s)))
	hash := make([]byte, 0, 4*len(state))
	for _, word := range state {
		hash = append(hash, byte(word>>24), byte(word>>16), byte(word>>8), byte(word))
	}
	return string(hash)
}

// pad returns the rest of a message of size bytes, padded to whole blocks.
func pad(rest string, size int) string {
	padded := append([]byte(rest), 128)
	for len(padded)%blockSize != blockSize-8 {
		padded = append(padded, 0)
	}
	bitLength := uint64(size) * 8
	for i := range 8 {
		padded = append(padded, byte(bitLength>>(56-8*i)))
	}
	return string(padded)
}

// absorb returns the state after the blocks of s.
func absorb(state [8]uint32, s string) [8]uint32 {
	for at := 0; at < len(s); at += blockSize {
		mixed := mix(state, schedule(s[at:at+blockSize]))
		for i, word := range mixed {
			state[i] += word
		}
	}
	return state
}

// schedule returns the words W(0) to W(63) of a block.
func schedule(block string) [rounds]uint32 {
	var w [rounds]uint32
	for t := range 16 {
		for i := range 4 {
			w[t] = w[t]<<8 | uint32(block[4*t+i])
		}
	}
	for t := 16; t < rounds; t++ {
		x, y := w[t-15], w[t-2]
		s0 := turned(x, 7) ^ turned(x, 18) ^ x>>3
		s1 := turned(y, 17) ^ turned(y, 19) ^ y>>10
		w[t] = s1 + w[t-7] + s0 + w[t-16]
	}
	return w
}

// turned returns x rotated right by n.
func turned(x uint32, n int) uint32 {
	return bits.RotateLeft32(x, -n)
}

// mix returns the variables a to h after the rounds of a block that starts with the state v.
func mix(v [8]uint32, w [rounds]uint32) [8]uint32 {
	a, b, c, d, e, f, g, h := v[0], v[1], v[2], v[3], v[4], v[5], v[6], v[7]
	for t := range rounds {
		s1 := turned(e, 6) ^ turned(e, 11) ^ turned(e, 25)
		choice := e&f ^ ^e&g
		first := h + s1 + choice + roundWords[t] + w[t]
		s0 := turned(a, 2) ^ turned(a, 13) ^ turned(a, 22)
		majority := a&b ^ a&c ^ b&c
		second := s0 + majority
		h, g, f, e, d, c, b, a = g, f, e, d+first, c, b, a, first+second
	}
	return [8]uint32{a, b, c, d, e, f, g, h}
}

// Mac returns the HMAC-SHA-256 of s in hexadecimal form.
func Mac(key, s string) string {
	if len(key) > blockSize {
		key = Digest(key)
	}
	key += strings.Repeat("\x00", blockSize-len(key))
	inner := Digest(masked(key, 54) + s)
	return Hex(Digest(masked(key, 92) + inner))
}

// masked returns key with each byte XORed with mask.
func masked(key string, mask byte) string {
	out := []byte(key)
	for i := range out {
		out[i] ^= mask
	}
	return string(out)
}
