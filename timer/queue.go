package timer

import "container/heap"

// moment is a count that a core waits for.
type moment struct {
	at   uint64
	core int
}

// queue is a heap whose first one comes first; of several, that of the least core, so that the order hangs on nothing else.
type queue []moment

func (q queue) Len() int { return len(q) }

func (q queue) Less(a, b int) bool {
	return q[a].at < q[b].at || q[a].at == q[b].at && q[a].core < q[b].core
}

func (q queue) Swap(a, b int) { q[a], q[b] = q[b], q[a] }

func (q *queue) Push(x any) { *q = append(*q, x.(moment)) }

func (q *queue) Pop() any {
	last := len(*q) - 1
	m := (*q)[last]
	*q = (*q)[:last]
	return m
}

// waiting are the moments that are still to come.
func (t *Timer) waiting() *queue {
	q := &queue{}
	for core := range t.cores {
		if s := t.look(core); s.waits() {
			heap.Push(q, moment{at: s.cval, core: core})
		}
	}
	return q
}
