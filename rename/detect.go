package rename

import (
	"slices"

	"graftage/api"
	"graftage/lines"
	"graftage/path"
	"graftage/simil"
	"graftage/store"
)

// most is the score of two files that are alike.
const most = 100

// match is a rename that was found: the indexes of the deletion and of the addition in a list of changes.
type match struct{ deletion, addition, score int }

// trait is what an exact rename keeps: the object, whether it is a symbolic link, and possibly the last path component, which is "" otherwise.
type trait struct {
	id   string
	link bool
	name string
}

// traits returns what a file can be found by, in the order in which it is sought.
func traits(f api.File) [2]trait {
	loose := trait{id: f.Id, link: f.Mode == api.ModeLink}
	named := loose
	named.name = path.Name(f.Path)
	return [...]trait{named, loose}
}

// Exact returns the changes with renames of identical files detected.
func Exact(l []api.Change) []api.Change {
	deleted := make(map[trait][]int) // the indexes that are still to be tried
	for i, c := range l {
		if c.Kind == api.ChangeDeleted {
			for _, t := range traits(c.Old) {
				deleted[t] = append(deleted[t], i)
			}
		}
	}
	var matches []match
	taken := make(map[int]bool)
additions:
	for i, c := range l {
		if c.Kind != api.ChangeAdded {
			continue
		}
		for _, t := range traits(c.New) {
			for len(deleted[t]) > 0 {
				first := deleted[t][0]
				deleted[t] = deleted[t][1:]
				if !taken[first] {
					taken[first] = true
					matches = append(matches, match{deletion: first, addition: i, score: most})
					continue additions
				}
			}
		}
	}
	return joined(l, matches)
}

// joined returns the changes with one rename for each match.
func joined(l []api.Change, matches []match) []api.Change {
	renamed := slices.Clone(l)
	gone := make(map[int]bool)
	for _, m := range matches {
		renamed[m.addition] = api.Change{Kind: api.ChangeRenamed, Old: l[m.deletion].Old, New: l[m.addition].New, Score: m.score}
		gone[m.deletion] = true
	}
	var out []api.Change
	for i, c := range renamed {
		if !gone[i] {
			out = append(out, c)
		}
	}
	return out
}

// candidate is a file that an inexact rename may pair.
type candidate struct {
	index int // of its change
	file  api.File
	text  string
}

// Find returns the changes with all renames detected whose similarity is at least least percent.
func Find(s api.Store, l []api.Change, least int) ([]api.Change, api.Errno) {
	l = Exact(l)
	deleted, added := candidates(l)
	if len(deleted) == 0 || len(added) == 0 {
		return l, api.OK
	}
	for _, side := range [...][]candidate{deleted, added} {
		if e := read(s, side); e != api.OK {
			return nil, e
		}
	}
	return joined(l, best(ranked(deleted, added, min(max(least, 1), most)))), api.OK
}

// candidates returns the deleted and the added files, symbolic links excluded.
func candidates(l []api.Change) (deleted, added []candidate) {
	for i, c := range l {
		switch {
		case c.Kind == api.ChangeDeleted && c.Old.Mode != api.ModeLink:
			deleted = append(deleted, candidate{index: i, file: c.Old})
		case c.Kind == api.ChangeAdded && c.New.Mode != api.ModeLink:
			added = append(added, candidate{index: i, file: c.New})
		}
	}
	return deleted, added
}

// read sets the texts of candidates.
func read(s api.Store, l []candidate) api.Errno {
	for i := range l {
		o, e := store.Get(s, l[i].file.Id)
		switch {
		case e != api.OK:
			return api.ErrMissingObject
		case o.Kind != api.Blob:
			return api.ErrKind
		}
		l[i].text = o.Body
	}
	return api.OK
}

// ranked returns the pairs of a deleted and an added file whose score is at least least, at the index of their rank, which grows with the score and with equal names. Pairs of one rank are in the order of their old paths, then of their new paths.
func ranked(deleted, added []candidate, least int) [][]match {
	ranks := make([][]match, 2*most+2)
	bounds := sharers(added)
	for _, d := range deleted {
		for i, bound := range bounds(d.text) {
			a := added[i]
			if most*bound < least*max(len(d.text), len(a.text)) {
				continue
			}
			score := simil.Score(d.text, a.text)
			if score < least {
				continue
			}
			rank := 2 * score
			if path.Name(d.file.Path) == path.Name(a.file.Path) {
				rank++
			}
			ranks[rank] = append(ranks[rank], match{deletion: d.index, addition: a.index, score: score})
		}
	}
	return ranks
}

// sharers returns a function that tells how many bytes a text can share with each candidate at most. It saves scoring nearly all pairs, since most files have hardly a line in common.
func sharers(l []candidate) func(text string) []int {
	type holder struct{ at, size int } // a candidate, and the bytes of all its lines that are alike
	holders := make(map[string][]holder)
	for at, c := range l {
		for _, line := range lines.Split(c.text) {
			h := holders[line]
			if len(h) == 0 || h[len(h)-1].at != at {
				h = append(h, holder{at: at})
			}
			h[len(h)-1].size += len(line)
			holders[line] = h
		}
	}
	return func(text string) []int {
		bounds := make([]int, len(l))
		met := make(map[string]bool)
		for _, line := range lines.Split(text) {
			if met[line] {
				continue
			}
			met[line] = true
			for _, h := range holders[line] {
				bounds[h.at] += h.size
			}
		}
		return bounds
	}
}

// best takes matches from the highest rank down, each file once.
func best(ranks [][]match) []match {
	var matches []match
	taken := make(map[int]bool)
	for _, rank := range slices.Backward(ranks) {
		for _, m := range rank {
			if !taken[m.deletion] && !taken[m.addition] {
				taken[m.deletion] = true
				taken[m.addition] = true
				matches = append(matches, m)
			}
		}
	}
	return matches
}
