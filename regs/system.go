package regs

import "understudy/api"

// What system registers have in certain bits.
const (
	bitMask   = uint64(1) << 7    // of DAIF: interrupts are masked
	coreBase  = uint64(1) << 31   // of MPIDR, beside the Id
	belowVbar = uint64(1)<<11 - 1 // VBAR has none of these
	wordOnly  = uint64(1)<<32 - 1 // ESR has these alone
)

// Get and Set are system registers of the state; false: it has none of this name.
func Get(c api.Core, sys int) (uint64, bool) {
	switch sys {
	case api.SysNzcv:
		return Nzcv(c), true
	case api.SysDaif:
		return bitIf(c.Mask, bitMask), true
	case api.SysMpidr:
		return coreBase + uint64(c.Id), true
	case api.SysEl:
		return uint64(c.EL) * 4, true
	}
	if place := placeOf(&c, sys); place != nil {
		return *place, true
	}
	return 0, false
}

func Set(c api.Core, sys int, value uint64) (api.Core, bool) {
	switch sys {
	case api.SysNzcv:
		return SetNzcv(c, value), true
	case api.SysDaif:
		c.Mask = value&bitMask != 0
		return c, true
	case api.SysVbar:
		value &^= belowVbar
	case api.SysEsr:
		value &= wordOnly
	}
	if place := placeOf(&c, sys); place != nil {
		*place = value
		return c, true
	}
	return api.Core{}, false
}

// placeOf serves Get and Set alike, so that what is got is what was set; nil: no number of the state is this register.
func placeOf(c *api.Core, sys int) *uint64 {
	switch sys {
	case api.SysVbar:
		return &c.Vbar
	case api.SysElr:
		return &c.Elr
	case api.SysSpsr:
		return &c.Spsr
	case api.SysEsr:
		return &c.Esr
	case api.SysFar:
		return &c.Far
	case api.SysSp0:
		return &c.SP[0]
	case api.SysTpidr:
		return &c.Tpidr
	}
	return nil
}
