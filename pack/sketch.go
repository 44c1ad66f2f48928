package pack

import (
	"math/bits"

	"graftage/api"
)

const (
	leastRun  = 8                  // bytes of the shortest run that a delta copies
	spread    = 16                 // bits of a sketch for each byte of its text, at least
	scatter   = 0x9e3779b97f4a7c15 // odd, so that the product's high bits depend on all bits of a run
	leastSize = 3                  // bytes of a delta besides those that it inserts: two lengths and the head of an instruction
)

// sketch tells which runs of leastRun bytes don't occur in a text. It takes other runs for ones that do, but few of them.
type sketch struct {
	shift int      // what a hash is shifted by to become the number of a bit
	words []uint64 // none if the text has no run
}

// sketchOf returns the sketch of a text. No delta has one beyond the limit as its base, so its sketch has no runs.
func sketchOf(text string) sketch {
	if len(text) < leastRun || len(text) > api.MaxBytes {
		return sketch{}
	}
	size := bits.Len(uint(len(text) * spread))
	k := sketch{shift: 64 - size, words: make([]uint64, 1<<size/64)}
	var run uint64
	for i := range len(text) {
		run = run<<8 | uint64(text[i])
		if i >= leastRun-1 {
			n := run * scatter >> k.shift
			k.words[n/64] |= 1 << (n % 64)
		}
	}
	return k
}

// has reports whether a run may occur in the text.
func (k sketch) has(run uint64) bool {
	if len(k.words) == 0 {
		return false
	}
	n := run * scatter >> k.shift
	return k.words[n/64]>>(n%64)&1 == 1
}

// allows reports whether the delta of body against the text may be shorter than limit: making all deltas just to see that they aren't would take long.
func (k sketch) allows(body string, limit int) bool {
	var run uint64
	size := leastSize
	end := 0 // of the last run that may be copied
	for i := range len(body) {
		run = run<<8 | uint64(body[i])
		start := i - leastRun + 1
		if start < 0 {
			continue
		}
		if k.has(run) {
			end = i + 1
		}
		// No run that is still to come begins as early as this one.
		if start >= end {
			size++
		}
		if size >= limit {
			return false
		}
	}
	return size < limit
}
