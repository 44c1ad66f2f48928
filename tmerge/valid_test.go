package tmerge_test

import (
	"slices"
	"strings"
	"testing"
	"time"

	"graftage/api"
	"graftage/tmerge"
)

// good returns a valid result of some files, records and slots.
func good() api.Merged {
	id := strings.Repeat("0a", 20)
	return api.Merged{
		Files: []api.File{{Path: "a", Mode: 1, Id: id}, {Path: "b/c", Mode: 2, Id: id}, {Path: "d", Mode: 3, Id: id}},
		Notes: []api.Conflict{{Kind: 1, Path: "a"}, {Kind: 8, Path: "b", Other: "x/y"}, {Kind: 3, Path: "b/c", Other: "a"}, {Kind: 4, Path: "e/f"}, {Kind: 6, Path: "g"}},
		Slots: []api.IndexEntry{{Path: "a", Stage: 1, Mode: 1, Id: id}, {Path: "a", Stage: 2, Mode: 2, Id: id}, {Path: "a", Stage: 3, Mode: 3, Id: id}, {Path: "b/c", Stage: 3, Mode: 1, Id: id}, {Path: "e/f", Stage: 1, Mode: 1, Id: id}},
	}
}

// expectValid fails unless Valid answers just this, and as the reference does.
func expectValid(t *testing.T, m api.Merged, want bool) {
	t.Helper()
	if got := tmerge.Valid(m); got != want || isValid(m) != want {
		t.Errorf("Valid(%v) = %t", m, got)
	}
}

// P21.5: each of the conditions, on its own.
func TestValid(t *testing.T) {
	id := strings.Repeat("0a", 20)
	expectValid(t, api.Merged{}, true)
	expectValid(t, good(), true)
	name := strings.Repeat("n", api.MaxName)
	for _, x := range []struct {
		change func(m *api.Merged)
		want   bool
	}{
		// The files.
		{func(m *api.Merged) { m.Files = nil }, true},
		{func(m *api.Merged) { m.Files[0].Path = "" }, false},
		{func(m *api.Merged) { m.Files[0].Mode = api.ModeDir }, false},
		{func(m *api.Merged) { m.Files[0].Id = "x" }, false},
		{func(m *api.Merged) { slices.Reverse(m.Files) }, false},
		{func(m *api.Merged) { m.Files[2].Path = "b/c/d" }, false},
		// The records.
		{func(m *api.Merged) { m.Notes = nil }, false},
		{func(m *api.Merged) { m.Notes, m.Slots = nil, nil }, true},
		{func(m *api.Merged) { m.Slots = nil }, true},
		{func(m *api.Merged) { m.Notes[1], m.Notes[2] = m.Notes[2], m.Notes[1] }, false},
		{func(m *api.Merged) { m.Notes = slices.Insert(m.Notes, 0, m.Notes[0]) }, false},
		{func(m *api.Merged) { m.Notes[0].Kind = 0 }, false},
		{func(m *api.Merged) { m.Notes[0].Kind = -1 }, false},
		{func(m *api.Merged) { m.Notes[0].Kind = 8 }, true},
		{func(m *api.Merged) { m.Notes[0].Kind = 9 }, false},
		{func(m *api.Merged) { m.Notes[4].Path = "g/" }, false},
		{func(m *api.Merged) { m.Notes[4].Path = name }, true},
		{func(m *api.Merged) { m.Notes[4].Path = name + "n" }, false},
		{func(m *api.Merged) { m.Notes[4].Other = "/" }, false},
		{func(m *api.Merged) { m.Notes[4].Other = "g" }, true},
		{func(m *api.Merged) { m.Notes[4].Other = ".." }, false},
		// The slots.
		{func(m *api.Merged) { slices.Reverse(m.Slots) }, false},
		{func(m *api.Merged) { m.Slots[0], m.Slots[1] = m.Slots[1], m.Slots[0] }, false},
		{func(m *api.Merged) { m.Slots[1].Stage = 1 }, false},
		{func(m *api.Merged) { m.Slots[1] = m.Slots[0] }, false},
		{func(m *api.Merged) { m.Slots[0].Stage = 0 }, false},
		{func(m *api.Merged) { m.Slots[2].Stage = 4 }, false},
		{func(m *api.Merged) { m.Slots[3].Stage = 1 }, true},
		{func(m *api.Merged) { m.Slots[0].Mode = 0 }, false},
		{func(m *api.Merged) { m.Slots[0].Mode = api.ModeDir }, false},
		{func(m *api.Merged) { m.Slots[0].Id = id[1:] }, false},
		{func(m *api.Merged) { m.Slots[0].Id = "" }, false},
		{func(m *api.Merged) { m.Slots[0].Id = strings.ToUpper(id) }, false},
		{func(m *api.Merged) { m.Slots[0].Skip = true }, false},
		{func(m *api.Merged) { m.Slots[0].Intent = true }, false},
		{func(m *api.Merged) { m.Slots[3].Path = "b/d" }, false},
		{func(m *api.Merged) { m.Slots[4].Path = "h" }, false},
		{func(m *api.Merged) { m.Slots[4].Path = "g" }, true},
		{func(m *api.Merged) { m.Slots[4].Path, m.Notes[3].Path = "e//f", "e//f" }, false},
		// The paths of slots against those of files and of other slots.
		{func(m *api.Merged) { m.Slots[3].Path = "b" }, false},
		{func(m *api.Merged) { m.Files[1].Path, m.Slots[3].Path = "bb", "b" }, true},
		{func(m *api.Merged) { m.Files[2].Path = "e" }, false},
		{func(m *api.Merged) { m.Files[2].Path = "e/f" }, true},
		{func(m *api.Merged) { m.Files[2].Path = "e/f/g/h" }, false},
		{func(m *api.Merged) { m.Files[2].Path = "e/g/h" }, true},
		{func(m *api.Merged) { m.Files[2].Path = "e/fg" }, true},
		{func(m *api.Merged) { m.Slots[4].Path, m.Notes[3].Path = "d/f", "d/f" }, false},
		{func(m *api.Merged) { m.Slots[4].Path, m.Notes[3].Path = "d/f/g/h", "d/f/g/h" }, false},
		{func(m *api.Merged) { m.Slots[4].Path, m.Notes[3].Path = "dd/f", "dd/f" }, true},
		{func(m *api.Merged) { m.Files, m.Slots[3].Path = m.Files[:1], "b" }, true},
		{func(m *api.Merged) { m.Files, m.Notes[3].Path, m.Slots[4].Path = m.Files[:1], "b/c/f", "b/c/f" }, false},
		{func(m *api.Merged) { m.Files, m.Notes[3].Path, m.Slots[4].Path = nil, "b/d/e/f", "b/d/e/f" }, true},
		{func(m *api.Merged) {
			m.Files, m.Slots[3].Path, m.Notes[3].Path, m.Slots[4].Path = nil, "b", "b/d/e/f", "b/d/e/f"
		}, false},
		{func(m *api.Merged) { m.Files, m.Slots[4].Path, m.Slots[4].Stage = nil, "b/c", 4 }, false},
	} {
		m := good()
		x.change(&m)
		expectValid(t, m, x.want)
	}
}

// P21.5: random changes of a valid result against the reference.
func TestValidRandom(t *testing.T) {
	next := draws(5)
	paths := []string{"a", "b", "b/c", "b/d/e/f", "d", "d/x", "e/f", "e/f/g", "g", "z", "", "a//b"}
	valid := 0
	for range 30000 {
		m := good()
		for range next(3) {
			p := paths[next(len(paths))]
			switch i := next(5); next(9) {
			case 0:
				m.Files[i%3].Path = p
			case 1:
				m.Notes[i].Path = p
			case 2:
				m.Notes[i].Other = p
			case 3:
				m.Notes[i].Kind = next(10)
			case 4:
				m.Slots[i].Path = p
			case 5:
				m.Slots[i].Stage = next(5)
			case 6:
				m.Slots[i].Mode = next(5)
			case 7:
				m.Files[i%3] = api.File{Path: "c", Mode: next(5), Id: m.Files[0].Id}
			case 8:
				m.Notes[i], m.Slots[i].Path = api.Conflict{Kind: 1, Path: p}, p
			}
		}
		want := isValid(m)
		expectValid(t, m, want)
		if want {
			valid++
		}
	}
	if valid < 5000 || valid > 25000 {
		t.Errorf("%d were valid", valid)
	}
}

// P21.5, R1: any strings and any numbers are judged in good time.
func TestValidAny(t *testing.T) {
	start := time.Now()
	id := strings.Repeat("0a", 20)
	slashes := strings.Repeat("/", api.MaxBytes)
	tmerge.Valid(api.Merged{Files: []api.File{{Path: slashes, Mode: 1, Id: id}}})
	tmerge.Valid(api.Merged{Notes: []api.Conflict{{Kind: 1, Path: slashes, Other: slashes}}})
	tmerge.Valid(api.Merged{Notes: []api.Conflict{{Kind: 1, Path: "a", Other: slashes}}})
	tmerge.Valid(api.Merged{Notes: []api.Conflict{{Kind: 1, Path: "a"}}, Slots: []api.IndexEntry{{Path: slashes, Stage: 1, Mode: 1, Id: id}, {Path: slashes, Stage: 1, Mode: 1, Id: id}}})
	if tmerge.Valid(api.Merged{Files: make([]api.File, api.MaxFiles+1)}) {
		t.Error("too many files are valid")
	}
	deep := strings.Repeat("d/", api.MaxDeep-1)
	m := api.Merged{}
	for i := range 100000 {
		p := deep + string([]byte{'a' + byte(i/26/26/26), 'a' + byte(i/26/26%26), 'a' + byte(i/26%26), 'a' + byte(i%26)})
		m.Notes = append(m.Notes, api.Conflict{Kind: 1, Path: p})
		m.Slots = append(m.Slots, api.IndexEntry{Path: p, Stage: 1, Mode: 1, Id: id})
	}
	if !tmerge.Valid(m) {
		t.Error("many slots aren't valid")
	}
	if d := time.Since(start); d > 10*time.Second {
		t.Errorf("it took %s", d)
	}
}

// P21.2: a merge is clean without records, whatever else it has.
func TestClean(t *testing.T) {
	m := good()
	if tmerge.Clean(m) || tmerge.Clean(api.Merged{Notes: m.Notes[:1]}) || !tmerge.Clean(api.Merged{}) || !tmerge.Clean(api.Merged{Files: m.Files, Slots: m.Slots, Notes: m.Notes[:0]}) {
		t.Error("Clean")
	}
}

// P21.4: the stages 2 and 3 change places, and the slots come in order again; nothing else changes.
func TestSwap(t *testing.T) {
	slot := func(p string, stage int) api.IndexEntry {
		return api.IndexEntry{Path: p, Stage: stage, Mode: stage, Id: p}
	}
	swapped := func(p string, stage, mode int) api.IndexEntry {
		return api.IndexEntry{Path: p, Stage: stage, Mode: mode, Id: p}
	}
	m := good()
	m.Slots = []api.IndexEntry{slot("a", 1), slot("a", 2), slot("a", 3), slot("b", 1), slot("b", 2), slot("c", 3), slot("d", 2), slot("d", 3), slot("e", 1)}
	m.Slots[0].Skip, m.Slots[1].Intent = true, true
	want := []api.IndexEntry{slot("a", 1), swapped("a", 2, 3), swapped("a", 3, 2), slot("b", 1), swapped("b", 3, 2), swapped("c", 2, 3), swapped("d", 2, 3), swapped("d", 3, 2), slot("e", 1)}
	want[0].Skip, want[2].Intent = true, true
	got := tmerge.Swap(m)
	if !slices.Equal(got.Slots, want) || !slices.Equal(got.Files, m.Files) || !slices.Equal(got.Notes, m.Notes) {
		t.Errorf("Swap(%v) = %v", m, got)
	}
	if back := tmerge.Swap(got); !sameMerged(back, m) {
		t.Errorf("Swap(%v) = %v", got, back)
	}
	if got := tmerge.Swap(good()); !tmerge.Valid(got) {
		t.Errorf("%v isn't valid", got)
	}
	if got := tmerge.Swap(api.Merged{}); !sameMerged(got, api.Merged{}) {
		t.Errorf("Swap of nothing = %v", got)
	}
	var many api.Merged
	for mode := range 100 {
		many.Slots = append(many.Slots, swapped("a", 2+mode%2, mode))
	}
	got = tmerge.Swap(many)
	for i, x := range got.Slots {
		if x != swapped("a", 2+i/50, (2*i+1)%100-i/50) {
			t.Errorf("slot %d is %v", i, x)
		}
	}
	// Other stages stay, and slots of one path and stage stay in their order.
	m.Slots = []api.IndexEntry{slot("b", 2), slot("a", 4), swapped("a", 3, 9), swapped("a", 3, 8), slot("a", 0), slot("a", -1)}
	want = []api.IndexEntry{slot("a", -1), slot("a", 0), swapped("a", 2, 9), swapped("a", 2, 8), slot("a", 4), swapped("b", 3, 2)}
	if got := tmerge.Swap(m); !slices.Equal(got.Slots, want) {
		t.Errorf("Swap(%v) = %v", m, got)
	}
}
