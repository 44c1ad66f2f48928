package hunk

// nearest returns the index of a nearest to want at which the lines of part stand, from start on, and whether there is one. start isn't beyond want.
func nearest(a, part []string, start, want int) (int, bool) {
	if len(part) == 0 {
		return min(want, len(a)), true
	}
	p := patternOf(part)
	best, size := -1, 0
	nearer := func(at int) bool { return best < 0 || at-want < want-best }
	for i := start; i < len(a) && nearer(i+1-len(part)); i++ {
		size = p.next(size, a[i])
		if size == len(part) {
			best = i + 1 - size
		}
	}
	return best, best >= 0
}

// pattern finds where its lines stand in others without holding any line against them again and again, which takes too long where many lines are alike (the search of Knuth, Morris and Pratt).
type pattern struct {
	lines   []string
	borders []int // for each start of the lines, how many lines that start begins and ends with, short of all of it
}

// patternOf returns the pattern of some lines.
func patternOf(part []string) pattern {
	p := pattern{part, make([]int, 1, len(part))}
	for size := 0; len(p.borders) < len(part); {
		size = p.next(size, part[len(p.borders)])
		p.borders = append(p.borders, size)
	}
	return p
}

// next returns how many of the pattern's first lines end with line, given that size of them stand before it.
func (p pattern) next(size int, line string) int {
	for size == len(p.lines) || size > 0 && p.lines[size] != line {
		size = p.borders[size-1]
	}
	if p.lines[size] == line {
		size++
	}
	return size
}
