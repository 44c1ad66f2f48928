package delta

import "slices"

// automaton reads any substring of a text byte by byte: a suffix automaton. Making it takes time in proportion to the text, however the text repeats itself.
type automaton struct{ states []state }

// state is where the substrings lead that end at the same offsets of the text: one of them and some of its suffixes.
type state struct {
	size  int // of the longest of them
	end   int // the first of the offsets
	link  int // the state of the longest suffix that leads elsewhere, or -1
	edges []edge
}

// edge leads on to another state.
type edge struct {
	label byte
	to    int
}

// newAutomaton returns the automaton of text.
func newAutomaton(text string) *automaton {
	m := &automaton{states: []state{{link: -1}}}
	last := 0
	for at := range len(text) {
		last = m.extend(last, text[at])
	}
	return m
}

// extend appends a byte to the text, all of which leads to the state last so far, and returns the state it leads to then.
func (m *automaton) extend(last int, label byte) int {
	size := m.states[last].size + 1
	whole := m.add(state{size: size, end: size})
	at := last
	for at >= 0 && m.follow(at, label) < 0 {
		m.states[at].edges = append(m.states[at].edges, edge{label, whole})
		at = m.states[at].link
	}
	if at >= 0 {
		// Ahead of the assignment, since it may move the states.
		link := m.separate(at, label)
		m.states[whole].link = link
	}
	return whole
}

// separate returns a state to which the longest substring of the state at leads with label, and nothing longer.
func (m *automaton) separate(at int, label byte) int {
	mixed := m.follow(at, label)
	size := m.states[at].size + 1
	if m.states[mixed].size == size {
		return mixed
	}
	shorter := m.states[mixed]
	shorter.size = size
	shorter.edges = slices.Clone(shorter.edges)
	apart := m.add(shorter)
	m.states[mixed].link = apart
	for at >= 0 && m.follow(at, label) == mixed {
		m.redirect(at, edge{label, apart})
		at = m.states[at].link
	}
	return apart
}

// add adds a state and returns its number.
func (m *automaton) add(s state) int {
	m.states = append(m.states, s)
	return len(m.states) - 1
}

// follow returns the state to which label leads from the state at, or -1.
func (m *automaton) follow(at int, label byte) int {
	for _, e := range m.states[at].edges {
		if e.label == label {
			return e.to
		}
	}
	return -1
}

// redirect replaces the edge of the state at that has the label of e.
func (m *automaton) redirect(at int, e edge) {
	edges := m.states[at].edges
	for i := range edges {
		if edges[i].label == e.label {
			edges[i] = e
		}
	}
}

// longest returns the first offset in the text of the longest substring that rest begins with, and its size.
func (m *automaton) longest(rest string) (int, int) {
	at, size := 0, 0
	for size < len(rest) {
		to := m.follow(at, rest[size])
		if to < 0 {
			break
		}
		at = to
		size++
	}
	return m.states[at].end - size, size
}
