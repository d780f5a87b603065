package trap

import (
	"understudy/api"
	"understudy/regs"
)

// What SPSR has of a state: its flags, whether interrupts are masked, and its level.
const (
	flagBits  = uint64(0xF0000000)
	maskBit   = uint64(0x80)
	levelBits = uint64(0x1F)

	level0 = uint64(0)
	level1 = uint64(5) // EL 1 with a stack pointer of its own
)

// Pstate is what SPSR has of a state, May whether a value may be taken as one.
func Pstate(c api.Core) uint64 {
	p := regs.Nzcv(c)
	if c.Mask {
		p |= maskBit
	}
	if c.EL == 1 {
		p |= level1
	}
	return p
}

func May(spsr uint64) bool {
	level := spsr & levelBits
	return spsr&^(flagBits|maskBit|levelBits) == 0 && (level == level0 || level == level1)
}

// withPstate is the state with what a value that may be taken tells.
func withPstate(c api.Core, spsr uint64) api.Core {
	c = regs.SetNzcv(c, spsr)
	c.Mask = spsr&maskBit != 0
	c.EL = 0
	if spsr&levelBits == level1 {
		c.EL = 1
	}
	return c
}
