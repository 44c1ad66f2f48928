package pack

import (
	"slices"

	"graftage/api"
	"graftage/delta"
)

const mostWindow = 64

// wholly is the plan of an object that is stored whole.
var wholly = api.DeltaPlan{Base: -1}

// planOf returns the delta plan of the objects from index first on, for a window and a depth within their limits. Those ahead of it are in no pack: their depth, and that of what is a delta against them, is 0.
func planOf(all []api.Object, first, window, deep int) []api.DeltaPlan {
	plan := make([]api.DeltaPlan, 0, len(all))
	recent := make(map[int][]candidate) // the last objects of each kind
	for i, o := range all {
		step := wholly
		if i >= first {
			step = choose(o.Body, recent[o.Kind], deep)
		}
		if 0 <= step.Base && step.Base < first {
			step.Deep = 0
		}
		plan = append(plan, step)
		l := append(recent[o.Kind], candidate{at: i, depth: step.Deep, body: o.Body, runs: sketchOf(o.Body)})
		recent[o.Kind] = slices.Delete(l, 0, max(0, len(l)-window))
	}
	return plan
}

// candidate is an object that may be a base.
type candidate struct {
	at, depth int
	body      string
	runs      sketch
}

// choose returns the plan for an object with the given body behind the objects of recent.
func choose(body string, recent []candidate, deep int) api.DeltaPlan {
	step := wholly
	limit := (len(body) + 1) / 2 // the least size that is no longer short enough
	for _, c := range slices.Backward(recent) {
		if c.depth >= deep || !c.runs.allows(body, limit) {
			continue
		}
		d := delta.Make(c.body, body)
		if d != "" && len(d) < limit {
			step = api.DeltaPlan{Base: c.at, Deep: c.depth + 1}
			limit = len(d)
		}
	}
	return step
}
