package lower

import (
	"slices"

	"understudy/api"
)

// isHeadRight asks all of micro-code that is not a matter of one operation and those ahead of it.
func isHeadRight(c api.Code) bool {
	switch {
	case c.PC%4 != 0, c.Words < 1, c.Words > api.MaxBlock, c.EL != 0 && c.EL != 1:
		return false
	case c.Slots < 0, c.Slots > api.Slots, len(c.Ops) < 1, len(c.Ops) > api.MaxMicro:
		return false
	}
	return c.Ops[0] == api.Micro{Kind: api.MAt, Imm: c.PC}
}

func areOpsRight(c api.Code) bool {
	var set places
	for k, o := range c.Ops {
		isLast := k == len(c.Ops)-1
		if shapeOf(o.Kind).has(anEnd) != isLast || !isOpRight(o, c.Slots) || !set.haveReadBy(o) {
			return false
		}
		set.addSetBy(o)
	}
	return true
}

// isOpRight does not ask what has been set.
func isOpRight(o api.Micro, slots int) bool {
	s := shapeOf(o.Kind)
	if s.name == "" {
		return false
	}
	for k, value := range fieldsOf(o) {
		if value != 0 && !s.has(1<<k) {
			return false
		}
	}
	for _, reg := range [...]int{o.D, o.A, o.B} {
		if !isWithin(reg, 0, api.HostRegs-1) {
			return false
		}
	}
	return isInRange(o, slots)
}

// isInRange asks of the fields R, Order and Imm whether the kind may have such ones.
func isInRange(o api.Micro, slots int) bool {
	switch o.Kind {
	case api.MFill, api.MSpill:
		return o.Imm < uint64(slots)
	case api.MGetX, api.MSetX:
		return isWithin(o.R, 0, 30)
	case api.MGetF, api.MSetF:
		return isWithin(o.R, 0, 3)
	case api.MAlu:
		return isWithin(o.R, api.AAdd, api.ASlt)
	case api.MLoad:
		return isOneOf(o.Order, api.OPlain, api.OAcqPC, api.OAcq)
	case api.MLoadEx:
		return isOneOf(o.Order, api.OPlain, api.OAcq)
	case api.MStore, api.MStoreEx:
		return isOneOf(o.Order, api.OPlain, api.ORel)
	case api.MNote:
		return isOneOf(o.R, api.FenceLd, api.FenceSt, api.FenceFull)
	case api.MAt:
		return o.Imm%4 == 0
	case api.MGuest:
		return o.Imm < 1<<32
	}
	return true
}

func isWithin(n, least, most int) bool {
	return least <= n && n <= most
}

func isOneOf(n int, those ...int) bool {
	return slices.Contains(those, n)
}

// places are those of the host that have been set.
type places struct {
	regs  [api.HostRegs]bool
	slots [api.Slots]bool
}

func (p *places) haveReadBy(o api.Micro) bool {
	s := shapeOf(o.Kind)
	switch {
	case s.has(fieldA) && !p.regs[o.A], s.has(fieldB) && !p.regs[o.B]:
		return false
	}
	return o.Kind != api.MFill || p.slots[o.Imm]
}

func (p *places) addSetBy(o api.Micro) {
	if shapeOf(o.Kind).has(fieldD) {
		p.regs[o.D] = true
	}
	if o.Kind == api.MSpill {
		p.slots[o.Imm] = true
	}
}
