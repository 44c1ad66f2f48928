package delta

import (
	"strings"
	"testing"
)

// texts returns strings out of few letters, which repeat themselves in many ways.
func texts() []string {
	all := []string{"abcdefgh", strings.Repeat("a", 100), strings.Repeat("abcdefgh", 20), strings.Repeat("aaaaaaaab", 12)}
	seed := uint64(1)
	for letters := range uint64(4) {
		for size := 8; size < 200; size += 19 {
			var text []byte
			for range size {
				seed = seed*6364136223846793005 + 1442695040888963407
				text = append(text, 'a'+byte((seed>>40)%(letters+1)))
			}
			all = append(all, string(text))
		}
	}
	return all
}

// P4.1: the finder answers the same whether it has patience left, runs out of it on its way, or never had any.
func TestFinderPatience(t *testing.T) {
	for _, base := range texts() {
		patient, hasty, none := newFinder(base), newFinder(base), newFinder(base)
		patient.spare = 1 << 40
		none.spare = 0
		for _, text := range texts() {
			for at := range len(text) {
				rest := text[at:]
				hasty.spare = at % 7
				from, size := patient.longest(rest)
				for _, other := range []*finder{hasty, none} {
					if gotFrom, gotSize := other.longest(rest); gotFrom != from || gotSize != size {
						t.Fatalf("longest(%q) in %q = %d, %d, want %d, %d", rest, base, gotFrom, gotSize, from, size)
					}
				}
				if size > 0 && (size < leastCopy || strings.Index(base, rest[:size]) != from) {
					t.Fatalf("longest(%q) in %q = %d, %d, which is not the first", rest, base, from, size)
				}
				if size < len(rest) && size > 0 && strings.Contains(base, rest[:size+1]) {
					t.Fatalf("longest(%q) in %q = %d, %d, which is not the longest", rest, base, from, size)
				}
			}
		}
	}
}

// R1: the finder gives up trying offsets where there are too many to try, and only there.
func TestFinderGivesUp(t *testing.T) {
	zeros := newFinder(strings.Repeat("\x00", 1000))
	words := newFinder(strings.Repeat("abcdefgh", 125))
	for range 500 {
		zeros.longest("\x00\x00\x00\x00\x00\x00\x00\x00\x00!")
		words.longest("abcdefgh!")
	}
	if zeros.slow == nil || words.slow == nil {
		t.Error("the finder goes on trying the offsets of a repetitive base")
	}
	// A single offset is tried each time, but 500 bytes are compared there.
	steps := newFinder(strings.Repeat("a", 1000))
	for range 200 {
		steps.longest(strings.Repeat("a", 500))
	}
	if steps.slow == nil {
		t.Error("the finder takes long comparisons for short ones")
	}
	once := newFinder(strings.Repeat("abcdefgh", 8) + "12345678")
	for range 500 {
		once.longest("87654321")
	}
	once.longest("12345678!")
	if once.slow != nil {
		t.Error("the finder makes an automaton that it doesn't need")
	}
}

// P4.1: the automaton knows every substring and where each first ends, and nothing else.
func TestAutomaton(t *testing.T) {
	for _, text := range texts() {
		m := newAutomaton(text)
		for at := range len(text) {
			for end := at + 1; end <= min(len(text), at+30); end++ {
				if from, size := m.longest(text[at:end]); from != strings.Index(text, text[at:end]) || size != end-at {
					t.Fatalf("longest(%q) in %q = %d, %d", text[at:end], text, from, size)
				}
				if from, size := m.longest(text[at:end] + "!"); from != strings.Index(text, text[at:end]) || size != end-at {
					t.Fatalf("longest(%q!) in %q = %d, %d", text[at:end], text, from, size)
				}
			}
		}
		if from, size := m.longest("!" + text); from != 0 || size != 0 {
			t.Fatalf("longest of a foreign byte in %q = %d, %d", text, from, size)
		}
		if len(m.states) >= 2*len(text) {
			t.Fatalf("the automaton of %q has %d states", text, len(m.states))
		}
	}
	if states := len(newAutomaton(strings.Repeat("a", 100)).states); states != 101 {
		t.Fatalf("the automaton of a run of 100 bytes has %d states", states)
	}
}
