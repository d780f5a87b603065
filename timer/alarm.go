package timer

import "understudy/api"

// The bits of CTL.
const (
	enable = 1 << iota
	imask
	istatus
)

// alarm is what is written of a core: CVAL, and of CTL the bits that stay as they were written (ISTATUS hangs on the count).
type alarm struct{ cval, ctl uint64 }

func (a *alarm) setCval(value uint64) { a.cval = value }
func (a *alarm) setCtl(value uint64)  { a.ctl = value & (enable | imask) }

// sets is the method that writes a register; nil, if none may be written under that number.
func (a *alarm) sets(sys int) func(uint64) {
	switch sys {
	case api.SysCval:
		return a.setCval
	case api.SysCtl:
		return a.setCtl
	}
	return nil
}

// sight is an alarm at a count, as some of what is asked hangs on both.
type sight struct {
	alarm
	count uint64
}

// asks is the method that reads a register; nil, if there is none of that number.
func (s sight) asks(sys int) func() uint64 {
	switch sys {
	case api.SysCnt:
		return s.readCnt
	case api.SysCval:
		return s.readCval
	case api.SysCtl:
		return s.readCtl
	}
	return nil
}

func (s sight) readCnt() uint64  { return s.count }
func (s sight) readCval() uint64 { return s.cval }

func (s sight) readCtl() uint64 {
	if s.ctl&enable != 0 && s.reached() {
		return s.ctl | istatus
	}
	return s.ctl
}

func (s sight) reached() bool { return s.count >= s.cval }

// heard says that only the count may keep the line low.
func (s sight) heard() bool { return s.ctl == enable }

func (s sight) high() bool  { return s.heard() && s.reached() }
func (s sight) waits() bool { return s.heard() && !s.reached() }
