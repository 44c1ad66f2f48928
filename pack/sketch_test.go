package pack

import (
	"strings"
	"testing"

	"graftage/delta"
)

// pseudo returns size bytes out of letters that depend on seed alone.
func pseudo(size, letters int, seed uint64) string {
	out := make([]byte, 0, size)
	for range size {
		seed = seed*6364136223846793005 + 1442695040888963407
		out = append(out, byte((seed>>40)%uint64(letters)))
	}
	return string(out)
}

// P25.1: a sketch allows every delta that is shorter than the limit, whatever the texts are.
func TestSketchAllows(t *testing.T) {
	for seed := range uint64(400) {
		base := pseudo(int(seed*7%300), 2+int(seed%50), seed)
		for cut := range uint64(12) {
			at := int((seed + cut*31) % uint64(len(base)+1))
			body := base[at:] + pseudo(int(seed%20), 9, cut) + base[:at] + pseudo(int(cut*3), 256, seed+cut)
			if cut == 11 {
				body = base
			}
			size := len(delta.Make(base, body))
			for limit := range 60 {
				if size+limit > 0 && len(body) > 0 && !sketchOf(base).allows(body, size+1+limit) {
					t.Fatalf("a sketch of %d bytes rules out a delta of %d bytes for %d bytes", len(base), size, len(body))
				}
			}
		}
	}
}

// R1: a sketch rules out almost all deltas of texts that have nothing in common, and those of which there are none.
func TestSketchRulesOut(t *testing.T) {
	for size := 512; size <= 1<<16; size *= 2 {
		k := sketchOf(pseudo(size, 256, 1))
		for seed := range uint64(20) {
			if body := pseudo(size, 256, seed+2); k.allows(body, size/2) {
				t.Errorf("a sketch of %d bytes allows an unlike text", size)
			}
		}
	}
	for _, text := range []string{"", "1234567", strings.Repeat("a", 1<<20+1)} {
		if k := sketchOf(text); len(k.words) != 0 || k.has(0) || k.allows(strings.Repeat("a", 100), 50) {
			t.Errorf("the sketch of %d bytes has runs", len(text))
		}
	}
	if k := sketchOf("12345678"); !k.has(0x3132333435363738) || k.has(0x3132333435363739) || len(k.words) != 4 {
		t.Errorf("the sketch of a single run is %v", k)
	}
}

// R1: a panic that doesn't tell of a pack is a mistake in the program, and isn't taken for an error.
func TestRaised(t *testing.T) {
	if raised(nil) != 0 || raised(fault(7)) != 7 {
		t.Error("a fault is taken for another one")
	}
	defer func() {
		if cause := recover(); cause != "oh" {
			t.Errorf("raised panics with %v", cause)
		}
	}()
	raised("oh")
	t.Error("raised doesn't panic")
}
