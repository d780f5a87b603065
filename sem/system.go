package sem

import (
	"understudy/api"
	"understudy/regs"
	"understudy/trap"
)

// Hints that do something.
const (
	hintWfe  = 2
	hintWfi  = 3
	hintSev  = 4
	hintSevl = 5
)

// What a core waits for.
const (
	waitInterrupt = 1
	waitEvent     = 2
)

// maskBit is the bit of MsrMask's number that is for interrupts.
const maskBit = 1 << 1

// barred tells whether the instruction may not be at this level.
func (s *step) barred() bool {
	if s.core.EL == 0 {
		return s.barredBelow()
	}
	switch s.Op {
	case api.Mrs:
		return s.Sys == api.SysEoir || s.Sys == api.SysSgi
	case api.Msr:
		return isReadOnly(s.Sys)
	}
	return false
}

// barredBelow is for EL 0.
func (s *step) barredBelow() bool {
	switch s.Op {
	case api.Eret, api.MsrMask, api.IcIallu:
		return true
	case api.Mrs:
		return !isForAll(s.Sys)
	case api.Msr:
		return !isForAll(s.Sys) || isReadOnly(s.Sys)
	}
	return false
}

func isForAll(sys int) bool {
	return sys == api.SysNzcv || sys == api.SysTpidr || sys == api.SysCnt
}

func isReadOnly(sys int) bool {
	switch sys {
	case api.SysMpidr, api.SysEl, api.SysCnt, api.SysIar:
		return true
	}
	return false
}

// isOutside tells of the registers of GIC and timer, which no core's state holds.
func isOutside(sys int) bool {
	switch sys {
	case api.SysIar, api.SysEoir, api.SysPmr, api.SysSgi, api.SysCnt, api.SysCtl, api.SysCval:
		return true
	}
	return false
}

func (s *step) sysRead() api.Want {
	if !isOutside(s.Sys) {
		return api.Want{}
	}
	return api.Want{Kind: api.WSysRead, Sys: s.Sys}
}

func (s *step) sysWrite() api.Want {
	if !isOutside(s.Sys) {
		return api.Want{}
	}
	return api.Want{Kind: api.WSysWrite, Sys: s.Sys, Value: s.x(s.Rd)}
}

func (s *step) mrs() {
	value := s.got.Value
	if !isOutside(s.Sys) {
		value, _ = regs.Get(s.core, s.Sys)
	}
	s.setX(s.Rd, value)
}

// msr leaves what is outside to the caller.
func (s *step) msr() {
	if !isOutside(s.Sys) {
		s.core, _ = regs.Set(s.core, s.Sys, s.x(s.Rd))
	}
}

func (s *step) msrMask() {
	if s.Imm&maskBit != 0 {
		s.core.Mask = s.Sub == 0
	}
}

func (s *step) eret() {
	s.core, s.err = trap.Back(s.core)
}

func (s *step) hint() {
	switch s.Imm {
	case hintWfe:
		s.waitForEvent()
	case hintWfi:
		s.core.Wait = waitInterrupt
	case hintSev, hintSevl:
		s.core.Event = true
	}
}

// waitForEvent uses up the event that is there.
func (s *step) waitForEvent() {
	if s.core.Event {
		s.core.Event = false
		return
	}
	s.core.Wait = waitEvent
}
