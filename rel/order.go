package rel

import "container/heap"

// Loop is the least thing from which one or more pairs lead back to it, and whether there is one.
func (r *Rel) Loop() (int, bool) {
	for a, row := range r.Closed().rows {
		if row.has(a) {
			return a, true
		}
	}
	return 0, false
}

// Order is the least order of all things in which each pair's first thing stands ahead of its second one, and whether there is one.
func (r *Rel) Order() ([]int, bool) {
	ahead := r.Turned().rows
	ready := &queue{}
	for thing := range r.size {
		if ahead[thing] == 0 {
			heap.Push(ready, thing)
		}
	}
	var out []int
	for ready.Len() > 0 {
		a := ready.next()
		out = append(out, a)
		for b := range r.rows[a].each {
			ahead[b] = ahead[b].without(a)
			if ahead[b] == 0 {
				heap.Push(ready, b)
			}
		}
	}
	// What is on a loop, or behind one, is never ready.
	if len(out) < r.size {
		return nil, false
	}
	return out, true
}

// queue is a heap of things whose first one is the least.
type queue []int

func (q queue) Len() int { return len(q) }

func (q queue) Less(a, b int) bool { return q[a] < q[b] }

func (q queue) Swap(a, b int) { q[a], q[b] = q[b], q[a] }

func (q *queue) Push(x any) { *q = append(*q, x.(int)) }

func (q *queue) Pop() any {
	last := len(*q) - 1
	thing := (*q)[last]
	*q = (*q)[:last]
	return thing
}

// next takes the least thing out.
func (q *queue) next() int { return heap.Pop(q).(int) }
