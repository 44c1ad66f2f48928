package delta

// patience is how many comparisons a byte of the base the finder spends on candidates: about what its automaton costs.
const patience = 64

// finder finds the longest runs of bytes that occur in base.
type finder struct {
	base  string
	first map[string]int // the first offset of each prefix of a run
	next  []int          // for each offset, the next one with the same prefix, or -1
	spare int            // comparisons that may still be spent
	slow  *automaton     // made when they are spent
}

// newFinder returns a finder of the runs of base.
func newFinder(base string) *finder {
	f := &finder{base: base, first: make(map[string]int, len(base)), spare: patience * len(base)}
	f.next = make([]int, max(0, len(base)-leastCopy+1))
	// From the last offset to the first one, so that the offsets with one prefix are linked in ascending order.
	for at := len(f.next) - 1; at >= 0; at-- {
		prefix := base[at : at+leastCopy]
		after, ok := f.first[prefix]
		if !ok {
			after = -1
		}
		f.next[at] = after
		f.first[prefix] = at
	}
	return f
}

// longest returns the first offset in base of the longest run that rest begins with, and its size; zeros if it is too short to copy.
func (f *finder) longest(rest string) (int, int) {
	if len(rest) < leastCopy {
		return 0, 0
	}
	at, ok := f.first[rest[:leastCopy]]
	if !ok {
		return 0, 0
	}
	from, size := 0, 0
	for ; at >= 0 && size < len(rest) && at+size < len(f.base); at = f.next[at] {
		if f.spare <= 0 {
			return f.longestBySlow(rest)
		}
		f.spare--
		// Most offsets that can't do better differ in the byte that would make the run longer.
		if f.base[at+size] != rest[size] {
			continue
		}
		n := sharedSize(f.base[at:], rest)
		f.spare -= n
		if n > size {
			from, size = at, n
		}
	}
	return from, size
}

// longestBySlow answers as longest does. Where the base repeats a prefix all over, trying each of its offsets again and again could take minutes.
func (f *finder) longestBySlow(rest string) (int, int) {
	if f.slow == nil {
		f.slow = newAutomaton(f.base)
	}
	return f.slow.longest(rest)
}

// sharedSize returns the number of leading bytes that a and b have in common.
func sharedSize(a, b string) int {
	n := 0
	for n < len(a) && n < len(b) && a[n] == b[n] {
		n++
	}
	return n
}
