package dead

import (
	"slices"

	"understudy/api"
	"understudy/ir"
)

// What operations set, by numbers: each X has its own.
const (
	stackPointer = 31
	firstFlag    = 32
	programAt    = 36
	settable     = 37 // so many there are
)

// sweep is one go over a block, from behind.
type sweep struct {
	seen    []bool
	setAnew [settable]bool // is set behind, ahead of all that gets it and of all that leaves
}

// mark writes into seen which operations of a right block are. It goes from behind, so that all that may use a value has been asked ahead of it.
func mark(ops []api.Op, seen []bool) {
	clear(seen)
	s := sweep{seen: seen}
	for k, o := range slices.Backward(ops) {
		if !s.sees(k, o) {
			continue
		}
		seen[k] = true
		for _, value := range ir.Uses(o) {
			seen[value] = true
		}
	}
	seen[0] = true // each block begins with its IAt, whatever stands behind it
}

// sees tells whether the operation at a place is seen, where all behind it have been asked.
func (s *sweep) sees(place int, o api.Op) bool {
	switch o.Kind {
	case api.ISetX:
		return s.set(o.R)
	case api.ISetSP:
		return s.set(stackPointer)
	case api.ISetF:
		return s.set(firstFlag + o.R)
	case api.IAt:
		return s.set(programAt)
	case api.IGetX:
		s.get(o.R)
	case api.IGetSP:
		s.get(stackPointer)
	case api.IGetF:
		s.get(firstFlag + o.R)
	case api.IFence: // seen, but the block is not left there: what is set anew behind it counts on
		return true
	}
	if ir.Leaves(o) {
		clear(s.setAnew[:])
		return true
	}
	return s.seen[place]
}

// set tells whether what is set there is seen.
func (s *sweep) set(what int) bool {
	isSeen := !s.setAnew[what]
	s.setAnew[what] = true
	return isSeen
}

// get counts also where nobody sees what it got: it goes first, and what was set for it with the next go.
func (s *sweep) get(what int) {
	s.setAnew[what] = false
}
