package rel

import "math/bits"

// set is a set of things: the bit n is there, if the thing n is.
type set uint64

func (s set) has(thing int) bool    { return s>>thing&1 == 1 }
func (s set) with(thing int) set    { return s | 1<<thing }
func (s set) without(thing int) set { return s &^ (1 << thing) }

// each is ranged over: the things, rising.
func (s set) each(yield func(int) bool) {
	for left := s; left != 0; {
		first := bits.TrailingZeros64(uint64(left))
		if !yield(first) {
			return
		}
		left = left.without(first)
	}
}
