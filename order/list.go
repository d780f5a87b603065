package order

import (
	"slices"

	"understudy/api"
)

// item is an operation that names its values by the items that define them, so that it can stand elsewhere without
// being told anew.
type item struct {
	op    api.Op
	a, b  *item // the first item of all, where its kind has none
	place int   // where it is laid down
}

func (i *item) isPlain(kind int) bool {
	return i.op.Kind == kind && i.op.Order == api.OPlain
}

// list is a block's operations, one behind the other.
type list struct {
	items []*item
}

// listOf need not ask which of A and B a kind has: one that it has not is 0, and the first operation stays the first one.
func listOf(ops []api.Op) *list {
	l := &list{items: make([]*item, len(ops))}
	for k, o := range ops {
		i := &item{op: o}
		l.items[k] = i
		i.a, i.b = l.items[o.A], l.items[o.B]
	}
	return l
}

// ops lays the operations down, and tells A and B anew.
func (l *list) ops() []api.Op {
	ops := make([]api.Op, len(l.items))
	for k, i := range l.items {
		i.place = k
		ops[k] = i.op
		ops[k].A, ops[k].B = i.a.place, i.b.place
	}
	return ops
}

// next is the place of the next operation behind a place that is such a one; what ends the block must be one.
func (l *list) next(at int, is func(api.Op) bool) int {
	next := at + 1
	for !is(l.items[next].op) {
		next++
	}
	return next
}

func (l *list) take(gone *item) {
	l.items = slices.DeleteFunc(l.items, func(i *item) bool { return i == gone })
}

// useInstead lets all that uses a value use another one.
func (l *list) useInstead(value, other *item) {
	for _, i := range l.items {
		if i.a == value {
			i.a = other
		}
		if i.b == value {
			i.b = other
		}
	}
}

// pullAhead lets the operations behind the one at a place, up to a last one, stand ahead of it, but for IAts: whatever
// is pulled is of the earlier instruction then.
func (l *list) pullAhead(at, last int) {
	var ahead, behind []*item
	for k, i := range l.items[at : last+1] {
		if k == 0 || i.op.Kind == api.IAt {
			behind = append(behind, i)
		} else {
			ahead = append(ahead, i)
		}
	}
	copy(l.items[at:], append(ahead, behind...))
}
