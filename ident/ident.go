// Package ident computes hashes and object IDs, and abbreviates and resolves IDs. See shared/doc/02-ident.md.
package ident

import (
	"strings"

	"graftage/api"
)

const (
	idBytes   = 20
	idDigits  = 2 * idBytes
	hexDigits = "0123456789abcdef"
)

// Of returns the ID of a byte string.
func Of(s string) string {
	return Hex(Digest(s)[:idBytes])
}

// Is reports whether id is an object ID.
func Is(id string) bool {
	return len(id) == idDigits && allDigits(id)
}

// allDigits reports whether s consists of hexadecimal digits.
func allDigits(s string) bool {
	for i := range len(s) {
		if _, ok := half(s[i]); !ok {
			return false
		}
	}
	return true
}

// half returns the value of a hexadecimal digit and reports whether it is one.
func half(digit byte) (byte, bool) {
	switch {
	case '0' <= digit && digit <= '9':
		return digit - '0', true
	case 'a' <= digit && digit <= 'f':
		return digit - 'a' + 10, true
	}
	return 0, false
}

// Raw returns the 20 bytes of an ID and reports whether it is one.
func Raw(id string) (string, bool) {
	if !Is(id) {
		return "", false
	}
	raw := make([]byte, 0, idBytes)
	for i := range idBytes {
		high, _ := half(id[2*i])
		low, _ := half(id[2*i+1])
		raw = append(raw, high<<4|low)
	}
	return string(raw), true
}

// Hex returns the hexadecimal form of raw.
func Hex(raw string) string {
	digits := make([]byte, 0, 2*len(raw))
	for i := range len(raw) {
		digits = append(digits, hexDigits[raw[i]>>4], hexDigits[raw[i]&15])
	}
	return string(digits)
}

// Short returns the shortest abbreviation of id that is unambiguous among ids.
func Short(ids []string, id string) string {
	if !Is(id) {
		return ""
	}
	kept := api.MaxKept
	for _, other := range ids {
		if other != id && Is(other) {
			kept = max(kept, shared(id, other)+1)
		}
	}
	return id[:kept]
}

// shared returns the number of leading digits that two different IDs have in common.
func shared(a, b string) int {
	n := 0
	for a[n] == b[n] {
		n++
	}
	return n
}

// Find returns the ID in ids that begins with head.
func Find(ids []string, head string) (string, api.Errno) {
	if len(head) < api.LeastKept || len(head) > idDigits || !allDigits(head) {
		return "", api.ErrSyntax
	}
	found := ""
	for _, id := range ids {
		if id == found || !strings.HasPrefix(id, head) || !Is(id) {
			continue
		}
		if found != "" {
			return "", api.ErrAmbiguous
		}
		found = id
	}
	if found == "" {
		return "", api.ErrNotFound
	}
	return found, api.OK
}
