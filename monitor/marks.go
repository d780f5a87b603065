package monitor

import "understudy/api"

// mark is a line that may be there or not; where it is not there it is mark{}, so that marks are held against each other as a whole.
type mark struct {
	there bool
	line  uint64
}

func of(addr uint64) mark { return mark{there: true, line: addr / api.Line} }

// begins is the address at which the mark's line begins, 0 where it is not there.
func (k mark) begins() uint64 { return k.line * api.Line }

// marks are those of all cores that may be. What changes them is done to a copy, so that those that were handed in stay as they are.
type marks [api.MaxCores]mark

// with are the marks where that core has this one.
func (a marks) with(core int, k mark) marks {
	a[core] = k
	return a
}

// without are the marks where no core but one has this one, and the cores that had it, rising.
func (a marks) without(core int, k mark) (marks, []int) {
	var lost []int
	for other, had := range a {
		if other != core && had == k {
			a[other] = mark{}
			lost = append(lost, other)
		}
	}
	return a, lost
}
