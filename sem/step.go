package sem

import (
	"understudy/api"
	"understudy/regs"
)

// stackPointer is the register 31, where it is not the zero register.
const stackPointer = 31

// step is one instruction on its way: the state that it is done to, and what came of what it wanted.
// What was decoded is right, so that the calls of the layers ahead refuse none of its fields.
type step struct {
	api.Insn
	core api.Core
	got  api.Got
	err  api.Errno
}

func (s *step) x(r int) uint64 {
	value, _ := regs.X(s.core, r)
	return value
}

func (s *step) xOrSP(r int) uint64 {
	if r != stackPointer {
		return s.x(r)
	}
	value, _ := regs.SP(s.core)
	return value
}

func (s *step) setX(r int, value uint64) {
	s.core, _ = regs.SetX(s.core, r, value)
}

func (s *step) setXOrSP(r int, value uint64) {
	if r != stackPointer {
		s.setX(r, value)
		return
	}
	s.core, _ = regs.SetSP(s.core, value)
}

// holds asks the condition of the flags as they are.
func (s *step) holds() bool {
	is, _ := regs.Holds(s.core, s.Cond)
	return is
}
