package walk

import "container/heap"

// ready is a commit all of whose children have been emitted.
type ready struct {
	id   string
	time int
}

// queue is a heap of commits, with the one on top that is emitted next.
type queue []ready

func (q queue) Len() int { return len(q) }

func (q queue) Less(i, k int) bool {
	if q[i].time != q[k].time {
		return q[i].time > q[k].time
	}
	return q[i].id < q[k].id
}

func (q queue) Swap(i, k int) { q[i], q[k] = q[k], q[i] }

func (q *queue) Push(x any) { *q = append(*q, x.(ready)) }

func (q *queue) Pop() any {
	last := len(*q) - 1
	x := (*q)[last]
	*q = (*q)[:last]
	return x
}

// order returns the commits in topological order.
func (h history) order() []string {
	waiting := make(map[string]int) // for how many children each commit waits
	for _, c := range h {
		for _, p := range c.parents {
			waiting[p]++
		}
	}
	var q queue
	for id, c := range h {
		if waiting[id] == 0 {
			q = append(q, ready{id: id, time: c.time})
		}
	}
	heap.Init(&q)
	var out []string
	for len(q) > 0 {
		next := heap.Pop(&q).(ready)
		out = append(out, next.id)
		for _, p := range h[next.id].parents {
			waiting[p]--
			if c, in := h[p]; in && waiting[p] == 0 {
				heap.Push(&q, ready{id: p, time: c.time})
			}
		}
	}
	return out
}
