package gic

import (
	"container/heap"

	"understudy/api"
)

// turn is an interrupt that waits for a core, or at which it works, with the rank that it had when it was looked at.
type turn struct{ rank, id int }

// queue is a heap whose first one is the most urgent; of several, that of the least number, so that the order hangs on nothing else.
type queue []turn

func (q queue) Len() int { return len(q) }

func (q queue) Less(a, b int) bool {
	return q[a].rank < q[b].rank || q[a].rank == q[b].rank && q[a].id < q[b].id
}

func (q queue) Swap(a, b int) { q[a], q[b] = q[b], q[a] }

func (q *queue) Push(x any) { *q = append(*q, x.(turn)) }

func (q *queue) Pop() any {
	last := len(*q) - 1
	t := (*q)[last]
	*q = (*q)[:last]
	return t
}

// waiting are the interrupts that a core could take now.
func (g *Gic) waiting(core int) *queue {
	q := &queue{}
	below := min(g.cores[core].limit, g.cores[core].running())
	for id := range api.Interrupts {
		s := g.look(core, id)
		away := id >= firstShared && s.goes != core
		if s.waits() && !away && s.rank < below {
			heap.Push(q, turn{rank: s.rank, id: id})
		}
	}
	return q
}

// next is the one of them that comes first, and whether there is one.
func (g *Gic) next(core int) (turn, bool) {
	if !g.hasCore(core) {
		return turn{}, false
	}
	q := g.waiting(core)
	if q.Len() == 0 {
		return turn{}, false
	}
	return heap.Pop(q).(turn), true
}
